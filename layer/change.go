package layer

import (
	"strings"

	"dunnage/api"
	"dunnage/dir"
	"dunnage/marks"
)

const root = "/"

// cut parts a path into the names ahead and the last one; the root has neither.
// Those ahead have no room behind their end: what is appended to them can't be laid over the last one.
func cut(path string) (ahead []string, last string) {
	names, _ := dir.Split(path)
	if len(names) == 0 {
		return nil, ""
	}
	end := len(names) - 1
	return names[:end:end], names[end]
}

func isMarked(name string) bool {
	return strings.HasPrefix(name, marks.Whiteout)
}

// change is that of a right entry with its path as its Name; NoChange, if it has none.
func change(e api.Entry, ahead []string, last string) api.Change {
	if last == marks.Opaque {
		return removal(e, api.Opaque, ahead...)
	}
	more, marked := strings.CutPrefix(last, marks.Whiteout)
	if !marked {
		return put(e)
	}
	if isMarked(more) {
		return api.Change{}
	}
	return removal(e, api.Whiteout, append(ahead, more)...)
}

// removal is the change of an entry that lets go what is at the path of these names, or below it.
func removal(e api.Entry, k api.ChangeKind, names ...string) api.Change {
	path, err := dir.Join(names...)
	if err != api.OK || e.Kind != api.File || len(e.Data) > 0 {
		return api.Change{}
	}
	return api.Change{Kind: k, Path: path}
}

// put is the change of an entry that is to be there itself. A kind keeps to all that those behind it keep to: so it falls through.
func put(e api.Entry) api.Change {
	switch e.Kind {
	case api.Hard:
		link, err := Clean(e.Link)
		if err != api.OK || link == root {
			return api.Change{}
		}
		e.Link = link
		fallthrough
	case api.File, api.Link:
		if e.Name == root {
			return api.Change{}
		}
		fallthrough
	default:
		e.Data = append([]byte(nil), e.Data...)
		return api.Change{Kind: api.Put, Path: e.Name, Node: e}
	}
}
