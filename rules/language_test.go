// Package rules has no code of the program: its tests look whether the program keeps to ../../shared/LANGUAGE.md.
package rules

import (
	"bytes"
	"go/ast"
	"go/format"
	"go/parser"
	"go/token"
	"io/fs"
	"os"
	"path/filepath"
	"slices"
	"strconv"
	"strings"
	"testing"
)

const mostLines = 60

// layers, in the order of DOC.md's map: each may call those ahead of it.
func layers() []string {
	return strings.Fields("disk sha wal bcache alloc inode dir fsys fsck blob manifest tarfmt layer union gc cli")
}

func library() []string {
	return strings.Fields("bytes cmp container/heap errors iter maps math math/bits slices sort strconv strings sync sync/atomic unicode unicode/utf8")
}

type source struct {
	path, pack string
	text       []byte
	set        *token.FileSet
	file       *ast.File
}

// program is all Go files of the module but tests, and the tests that are laid beside it.
func program(t *testing.T) []source {
	t.Helper()
	var all []source
	err := filepath.WalkDir("..", func(path string, d fs.DirEntry, err error) error {
		if err != nil {
			return err
		}
		if d.IsDir() && (d.Name() == ".git" || d.Name() == "sharedtests") {
			return filepath.SkipDir
		}
		if d.IsDir() || !strings.HasSuffix(path, ".go") || strings.HasSuffix(path, "_test.go") {
			return nil
		}
		text, err := os.ReadFile(path)
		if err != nil {
			return err
		}
		set := token.NewFileSet()
		file, err := parser.ParseFile(set, path, text, parser.ParseComments)
		all = append(all, source{path, filepath.ToSlash(filepath.Dir(path))[len("../"):], text, set, file})
		return err
	})
	if err != nil || len(all) == 0 {
		t.Fatal("no program: ", err)
	}
	return all
}

// LANGUAGE.md, rule 1, and DOC.md's map
func TestImports(t *testing.T) {
	for _, s := range program(t) {
		own := slices.Index(layers(), s.pack)
		for _, i := range s.file.Imports {
			path, _ := strconv.Unquote(i.Path.Value)
			called, ours := strings.CutPrefix(path, "dunnage/")
			if !ours && !slices.Contains(library(), path) {
				t.Errorf("%s: imports %s", s.path, path)
			}
			if at := slices.Index(layers(), called); ours && own >= 0 && at >= own {
				t.Errorf("%s: imports %s, a layer behind it", s.path, path)
			}
			if s.pack == "api" {
				t.Errorf("%s: imports %s", s.path, path)
			}
		}
	}
}

// LANGUAGE.md, rule 1: of some packages not all
func TestNamesOfTheLibrary(t *testing.T) {
	for _, s := range program(t) {
		ast.Inspect(s.file, func(n ast.Node) bool {
			x, ok := n.(*ast.SelectorExpr)
			if !ok {
				return true
			}
			p, ok := x.X.(*ast.Ident)
			if !ok {
				return true
			}
			name := p.Name + "." + x.Sel.Name
			if strings.HasPrefix(name, "iter.Pull") || p.Name == "sync" && !slices.Contains(strings.Fields("Mutex RWMutex WaitGroup Once"), x.Sel.Name) {
				t.Errorf("%s: calls %s", s.path, name)
			}
			return true
		})
	}
}

// LANGUAGE.md, rules 2 and 9
func TestText(t *testing.T) {
	for _, s := range program(t) {
		for _, c := range s.file.Comments {
			for _, l := range c.List {
				if strings.HasPrefix(l.Text, "//go:") || strings.HasPrefix(l.Text, "// +build") {
					t.Errorf("%s: %s", s.path, l.Text)
				}
			}
		}
		if laid, err := format.Source(s.text); err != nil || !bytes.Equal(laid, s.text) {
			t.Errorf("%s: not in gofmt's layout", s.path)
		}
		for _, d := range s.file.Decls {
			f, ok := d.(*ast.FuncDecl)
			if !ok {
				continue
			}
			if n := s.set.Position(f.End()).Line - s.set.Position(f.Pos()).Line + 1; n > mostLines {
				t.Errorf("%s: %s has %d lines", s.path, f.Name.Name, n)
			}
		}
	}
}

// LANGUAGE.md, rule 3b: a variable of a package has a value, and no call, map, function or pointer is in it.
func TestVariablesOfPackages(t *testing.T) {
	for _, s := range program(t) {
		for _, d := range s.file.Decls {
			g, ok := d.(*ast.GenDecl)
			if !ok || g.Tok != token.VAR {
				continue
			}
			for _, v := range g.Specs {
				checkVariable(t, s, v.(*ast.ValueSpec))
			}
		}
	}
}

func checkVariable(t *testing.T, s source, v *ast.ValueSpec) {
	t.Helper()
	if len(v.Values) != len(v.Names) {
		t.Errorf("%s: %s has no value of its own", s.path, v.Names[0].Name)
	}
	ast.Inspect(v, func(n ast.Node) bool {
		switch x := n.(type) {
		case *ast.MapType, *ast.FuncType, *ast.StarExpr:
			t.Errorf("%s: %s has a map, a function or a pointer", s.path, v.Names[0].Name)
		case *ast.CallExpr:
			f, ok := x.Fun.(*ast.SelectorExpr)
			if ok && f.Sel.Name == "New" {
				if p, ok := f.X.(*ast.Ident); ok && p.Name == "errors" {
					return true
				}
			}
			t.Errorf("%s: %s is made by a call", s.path, v.Names[0].Name)
		}
		return true
	})
}

// LANGUAGE.md, rule 2: no other file beside the Go files in a package of the program
func TestFiles(t *testing.T) {
	for _, p := range append(layers(), "api") {
		files, err := os.ReadDir(filepath.Join("..", p))
		if err != nil {
			t.Error(err)
		}
		for _, f := range files {
			if f.IsDir() || !strings.HasSuffix(f.Name(), ".go") {
				t.Errorf("%s has %s", p, f.Name())
			}
		}
	}
}
