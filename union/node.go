package union

import (
	"slices"
	"strings"

	"dunnage/api"
	"dunnage/dir"
)

const (
	root     = "/"
	dirMode  = 493
	linkMode = 511
	mostMode = 4095
)

// isNode tells whether a node is one of a tree, as far as the others don't matter.
func isNode(n api.Node) bool {
	if _, e := dir.Split(n.Path); e != api.OK {
		return false
	}
	if n.Kind != api.Link && n.Link != "" || n.Kind != api.File && len(n.Data) > 0 {
		return false
	}
	switch n.Kind {
	case api.File:
		return isMode(n.Mode) && len(n.Data) <= api.MaxFile
	case api.Dir:
		return isMode(n.Mode)
	case api.Link:
		return n.Mode == linkMode && len(n.Link) >= 1 && len(n.Link) <= api.MaxPath
	}
	return false
}

func isMode(mode int) bool {
	return mode >= 0 && mode <= mostMode
}

// byNames is the order of a tree's paths: name by name, since in their bytes others stand between a directory and what is in it.
func byNames(a, b string) int {
	return slices.Compare(strings.Split(a, "/"), strings.Split(b, "/"))
}

// parentOf is the path of the directory that a path but the root is in.
func parentOf(path string) string {
	return path[:max(1, strings.LastIndexByte(path, '/'))]
}

// entryOf is a node as an entry of a tar.
func entryOf(n api.Node) api.Entry {
	name := tarName(n.Path)
	if n.Kind == api.Dir {
		name += "/"
	}
	return api.Entry{Name: name, Kind: n.Kind, Mode: n.Mode, Link: n.Link, Data: n.Data}
}

// tarName is a path as a tar has it: without the first stroke.
func tarName(path string) string {
	return strings.TrimPrefix(path, "/")
}
