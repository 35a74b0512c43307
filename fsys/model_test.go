package fsys

import (
	"maps"
	"slices"
	"strings"
	"testing"

	"dunnage/api"
)

// thing is what a name of the model stands for.
type thing struct {
	kind  api.Kind
	mode  int
	links int
	bytes string
	names map[string]*thing // of a directory
}

func newThing(k api.Kind, mode int, bytes string) *thing {
	return &thing{k, mode, 1, bytes, map[string]*thing{}}
}

// copied is a model like another one; a thing with two names stays one thing.
func (x *thing) copied(seen map[*thing]*thing) *thing {
	if y := seen[x]; y != nil {
		return y
	}
	y := &thing{x.kind, x.mode, x.links, x.bytes, map[string]*thing{}}
	seen[x] = y
	for name, z := range x.names {
		y.names[name] = z.copied(seen)
	}
	return y
}

func (x *thing) told(path string) []sight {
	size := len(x.bytes)
	if x.kind == api.Dir {
		size = len(x.names)
	}
	all := []sight{{api.Found{Path: path, Stat: api.Stat{Kind: x.kind, Mode: x.mode, Links: x.links, Size: size}}, x.bytes}}
	for _, name := range slices.Sorted(maps.Keys(x.names)) {
		all = append(all, x.names[name].told(strings.TrimSuffix(path, "/")+"/"+name)...)
	}
	return all
}

// split are a path's names, if it is one: the paths of the game are short, their names right or empty.
func split(path string) ([]string, bool) {
	if path == "/" {
		return nil, true
	}
	if !strings.HasPrefix(path, "/") {
		return nil, false
	}
	names := strings.Split(path[1:], "/")
	return names, !slices.Contains(names, "") && len(names) <= api.MaxDepth
}

func (x *thing) at(path string) (*thing, api.Errno) {
	names, ok := split(path)
	if !ok {
		return nil, api.ErrName
	}
	for _, name := range names {
		if x.kind != api.Dir {
			return nil, api.ErrDir
		}
		if x = x.names[name]; x == nil {
			return nil, api.ErrNone
		}
	}
	return x, api.OK
}

// parent is the directory that has a path's last name, and that name; of a right path but the root.
func (x *thing) parent(path string) (*thing, string) {
	names, _ := split(path)
	last := len(names) - 1
	y, _ := x.at("/" + strings.Join(names[:last], "/"))
	return y, names[last]
}

// fresh is the error of a new path.
func (x *thing) fresh(path string) api.Errno {
	switch y, e := x.at(path); {
	case e == api.OK:
		return api.ErrKnown
	case e != api.ErrNone:
		return e
	default:
		if y, _ = x.parent(path); y == nil {
			return api.ErrNone
		}
		return api.OK
	}
}

func (x *thing) put(path string, y *thing) {
	in, name := x.parent(path)
	in.names[name] = y
}

// lose takes a name away, and all below.
func (x *thing) lose(path string) {
	in, name := x.parent(path)
	in.names[name].release()
	delete(in.names, name)
}

func (x *thing) release() {
	x.links--
	for _, y := range x.names {
		y.release()
	}
}

// game is a file system, its model, and the model as it was at the last Commit.
type game struct {
	f       *FS
	m, last *thing
	next    func(int) int
	refused int
}

// row is numbers by a rule, each below a bound; others for each seed.
func row(seed uint32) func(below int) int {
	x := seed*2654435761 + 12345
	return func(below int) int {
		x = x*1664525 + 1013904223
		return int(x>>8) % below
	}
}

// path is one that leads to something, or one below such, or none at all.
func (g *game) path() string {
	all := g.m.told("/")
	path := strings.TrimSuffix(all[g.next(len(all))].Path, "/")
	switch g.next(20) {
	case 0:
		return path + "/"
	case 1:
		return path + "/none/x"
	case 2:
		return path + "/a"
	default:
		return "/" + strings.TrimPrefix(path, "/")
	}
}

// fresh is mostly a path in a directory.
func (g *game) fresh() string {
	all := slices.DeleteFunc(g.m.told("/"), func(s sight) bool { return s.Stat.Kind != api.Dir })
	if g.next(4) == 0 {
		return g.path()
	}
	return strings.TrimSuffix(all[g.next(len(all))].Path, "/") + "/" + string(rune('a'+g.next(12)))
}

// making does one call that makes something: its error, the one that the model has, and what is done to the model.
func (g *game) making() (got, want api.Errno, do func()) {
	path, mode, b := g.fresh(), g.next(4096), text(g.next(3)*g.next(900)+g.next(2)*g.next(3000), g.next(99))
	fresh := g.m.fresh(path)
	switch g.next(5) {
	case 0:
		return g.f.Mkdir(path, mode), fresh, func() { g.m.put(path, newThing(api.Dir, mode, "")) }
	case 1:
		target := string(text(1+g.next(40), 1))
		return g.f.Symlink(path, target), fresh, func() { g.m.put(path, newThing(api.Link, 511, target)) }
	case 2:
		old := g.path()
		x, e := g.m.at(old)
		if e == api.OK && x.kind == api.Dir {
			e = api.ErrDir
		}
		if e == api.OK {
			e = fresh
		}
		return g.f.Link(old, path), e, func() { x.links++; g.m.put(path, x) }
	default:
		x, e := g.m.at(path)
		got := g.f.Write(path, mode, b...)
		if e != api.OK {
			return got, fresh, func() { g.m.put(path, newThing(api.File, mode, string(b))) }
		}
		if x.kind != api.File {
			return got, api.ErrDir, nil
		}
		return got, api.OK, func() { x.mode, x.bytes = mode, string(b) }
	}
}

// taking does one call that takes something away, or renames it.
func (g *game) taking() (got, want api.Errno, do func()) {
	path := g.path()
	x, e := g.m.at(path)
	lose := func() { g.m.lose(path) }
	switch g.next(5) {
	case 0:
		if e == api.OK && x.kind == api.Dir {
			e = api.ErrDir
		}
		return g.f.Unlink(path), e, lose
	case 1:
		switch {
		case e != api.OK:
		case x.kind != api.Dir:
			e = api.ErrDir
		case x == g.m || len(x.names) > 0:
			e = api.ErrBusy
		}
		return g.f.Rmdir(path), e, lose
	case 2:
		if e == api.OK && len(x.names) > 2 && g.next(6) > 0 {
			return api.OK, api.OK, func() {} // so that something grows
		}
		if x == g.m {
			e = api.ErrBusy
		}
		return g.f.Remove(path), e, lose
	default:
		to := g.fresh()
		_, right := split(to)
		switch {
		case e != api.OK:
		case x == g.m:
			e = api.ErrBusy
		case !right:
			e = api.ErrName
		case strings.HasPrefix(to, path+"/"):
			e = api.ErrBusy
		default:
			e = g.m.fresh(to)
		}
		return g.f.Rename(path, to), e, func() {
			in, name := g.m.parent(path)
			delete(in.names, name)
			g.m.put(to, x)
		}
	}
}

func (g *game) play(t *testing.T) {
	t.Helper()
	var e, want api.Errno
	var do func()
	switch k := g.next(20); {
	case k == 0:
		commit(t, g.f)
		g.last = g.m.copied(map[*thing]*thing{})
		if g.next(2) == 0 {
			g.f = mounted(t, g.f.Disk())
		}
		return
	case k == 1:
		wantError(t, "Abort", g.f.Abort(), api.OK)
		g.m = g.last.copied(map[*thing]*thing{})
		return
	case k < 14:
		e, want, do = g.making()
	default:
		e, want, do = g.taking()
	}
	switch {
	case e == api.ErrFull && want == api.OK:
		g.m = g.last.copied(map[*thing]*thing{})
		g.refused++
		if len(cacheOf(g.f).Dirty()) != 0 {
			t.Fatal("no room, and not all since the last Commit is forgotten")
		}
	case e != want:
		t.Fatalf("error %d, want %d", e, want)
	case e == api.OK:
		do()
	}
}

// P8.1 to P8.6, P8.8, E1, E3, E7: many calls, held against the model.
func TestAgainstTheModel(t *testing.T) {
	refused, most := 0, 0
	for seed := range uint32(15) {
		next := row(seed)
		m := newThing(api.Dir, 493, "")
		g := &game{made(t, 30+next(90), 8*(2+next(5))), m, m.copied(map[*thing]*thing{}), next, 0}
		for range 300 {
			g.play(t)
			now := told(t, g.f)
			most = max(most, len(now))
			if !slices.Equal(now, g.m.told("/")) {
				t.Fatalf("seed %d: another tree", seed)
			}
			wantSound(t, g.f)
			if t.Failed() {
				t.FailNow()
			}
		}
		refused += g.refused
	}
	if refused < 20 || most < 40 {
		t.Errorf("%d calls without room, %d paths at most", refused, most)
	}
}
