package cli

import (
	"bytes"
	"encoding/hex"
	"maps"
	"math/big"
	"regexp"
	"slices"
	"strconv"
	"strings"
	"testing"

	"dunnage/api"
	"dunnage/layer"
	"dunnage/manifest"
	"dunnage/tarfmt"
	"dunnage/union"
)

// The commands, a second time: as patterns of whole lines.
const (
	someDigits = `(?:-|(?:[0-9a-f]{2})+)`
	aDigest    = `[0-9a-f]{64}`
	aNumber    = `(?:0|[1-9][0-9]*)`
	anEntry    = `(?:f:[^ :]*:` + aNumber + `:` + someDigits + `|d:[^ :]*:` + aNumber + `|[lh]:[^ :]*:[^ :]*)`
)

var command = regexp.MustCompile(`\A(?:` + strings.Join([]string{
	`put ` + someDigits, `manifest [^ ]+ [^ ]+(?: ` + aDigest + `){0,8}`, `layer(?: ` + anEntry + `){0,16}`, `(?:get|count|release) ` + aDigest, `tag [^ ]+ ` + aDigest,
	`(?:untag|unpin|ls|cat|tar) [^ ]+`, `pin [^ ]+ [^ ]+`, `tags|pins|blobs|audit|free`,
}, "|") + `)\z`)

// isCommand: a pattern can't tell whether an entry's number is too great.
func isCommand(line string) bool {
	if !command.MatchString(line) || !strings.HasPrefix(line, "layer ") {
		return command.MatchString(line)
	}
	for _, entry := range strings.Split(line, " ")[1:] {
		if part := strings.Split(entry, ":"); part[0] == "f" || part[0] == "d" {
			if n, _ := new(big.Int).SetString(part[2], 10); n.Cmp(big.NewInt(1<<40)) > 0 {
				return false
			}
		}
	}
	return true
}

// abstract is the store that a script's answers are those of: maps alone, by digests in digits.
type abstract struct {
	blobs      map[string][]byte
	holds      map[string]int
	tags, pins map[string]string
	trees      map[string][]api.Node
}

func newAbstract() *abstract {
	return &abstract{map[string][]byte{}, map[string]int{}, map[string]string{}, map[string]string{}, map[string][]api.Node{}}
}

func (x *abstract) layers(h string) (list []string, ok bool) {
	m, e := manifest.Decode(x.blobs[h])
	for _, l := range m.Layers {
		list = append(list, hex.EncodeToString(l[:]))
	}
	return list, e == api.OK
}

func (x *abstract) count(h string) int {
	n := x.holds[h]
	stood := map[string]bool{}
	for _, words := range []map[string]string{x.tags, x.pins} {
		for _, m := range words {
			stood[m] = true
			if m == h {
				n++
			}
		}
	}
	for m := range stood {
		layers, _ := x.layers(m)
		for _, l := range layers {
			if l == h {
				n++
			}
		}
	}
	return n
}

func (x *abstract) collect() string {
	for _, h := range slices.Collect(maps.Keys(x.blobs)) {
		if x.count(h) == 0 {
			defer delete(x.blobs, h) // behind all counts: they ask manifests that go, too
		}
	}
	return "ok"
}

func (x *abstract) put(b []byte, e api.Errno) string {
	if e == api.OK && len(b) > api.MaxBlob {
		e = api.ErrLong
	}
	if e != api.OK {
		return no(e)
	}
	x.blobs[digestOf(b)] = b
	x.holds[digestOf(b)]++
	return "ok " + digestOf(b)
}

func (x *abstract) tag(word, h string) string {
	_, there := x.blobs[h]
	layers, right := x.layers(h)
	_, known := x.tags[word]
	switch {
	case !manifest.IsWord(word):
		return "no 8"
	case !there:
		return "no 4"
	case !right:
		return "no 3"
	}
	for _, l := range layers {
		if _, ok := x.blobs[l]; !ok {
			return "no 4"
		}
	}
	if !known && len(x.tags) >= 16 {
		return "no 6"
	}
	x.tags[word] = h
	return x.collect()
}

func (x *abstract) pin(word, tag string) string {
	h, ok := x.tags[tag]
	_, known := x.pins[word]
	switch {
	case !manifest.IsWord(word):
		return "no 8"
	case !ok:
		return "no 4"
	case known:
		return "no 5"
	case len(x.pins) >= 8:
		return "no 6"
	}
	layers, _ := x.layers(h)
	var all [][]api.Change
	for _, l := range layers {
		changes, e := layer.Read(x.blobs[l])
		if e != api.OK {
			return "no 13"
		}
		all = append(all, changes)
	}
	tree, e := union.Fold(all...)
	if e != api.OK {
		return "no 13"
	}
	for _, n := range tree {
		if path := "/roots/" + word + n.Path; len(path) > 255 || strings.Count(path, "/") > 16 {
			return "no 8"
		}
	}
	x.pins[word], x.trees[word] = h, tree
	return "ok"
}

// node is what a path below /roots leads to; an error's number, if to nothing.
func (x *abstract) node(path string) (n api.Node, e api.Errno) {
	names := strings.Split(path, "/")[1:]
	if !strings.HasPrefix(path, "/") || len("/roots"+path) > 255 || len(names) > 15 {
		return n, api.ErrName
	}
	for _, name := range names {
		if name == "" || name == "." || name == ".." || len(name) > 59 || strings.Contains(name, "\x00") {
			return n, api.ErrName
		}
	}
	n = api.Node{Path: "/" + names[0], Kind: api.Dir}
	if _, ok := x.pins[names[0]]; !ok {
		return n, api.ErrNone
	}
	for k := range names[1:] {
		if n.Kind != api.Dir {
			return n, api.ErrDir
		}
		at := slices.IndexFunc(x.trees[names[0]], func(m api.Node) bool { return m.Path == "/"+strings.Join(names[1:k+2], "/") })
		if at < 0 {
			return n, api.ErrNone
		}
		n = x.trees[names[0]][at]
		n.Path = "/" + names[0] + n.Path
	}
	return n, api.OK
}

func (x *abstract) ls(path string) string {
	top := path
	if path == "/" {
		top = ""
	} else if n, e := x.node(path); e != api.OK {
		return no(e)
	} else if n.Kind != api.Dir {
		return "no 10"
	}
	var names []string
	for word, tree := range x.trees {
		for _, n := range append(slices.Clone(tree), api.Node{Path: ""}) {
			if rest, ok := strings.CutPrefix("/"+word+n.Path, top+"/"); ok && !strings.Contains(rest, "/") {
				names = append(names, rest)
			}
		}
	}
	slices.Sort(names)
	return yes(names...)
}

func (x *abstract) cat(path string) string {
	if path == "/" {
		return "no 10"
	}
	n, e := x.node(path)
	if e == api.OK && n.Kind != api.File {
		e = api.ErrDir
	}
	if e != api.OK {
		return no(e)
	}
	return "ok " + Hex(n.Data)
}

func (x *abstract) tar(word string) string {
	if _, ok := x.pins[word]; !ok {
		return "no 4"
	}
	var l []api.Entry
	for _, n := range x.trees[word] {
		e := api.Entry{Name: n.Path[1:], Kind: n.Kind, Mode: n.Mode, Link: n.Link, Data: n.Data}
		if n.Kind == api.Dir {
			e.Name += "/"
		}
		l = append(l, e)
	}
	return x.put(tarfmt.Print(l...))
}

func (x *abstract) layer(words []string) string {
	var l []api.Entry
	for _, word := range words {
		part := strings.Split(word, ":")
		e := api.Entry{Name: part[1], Kind: map[string]api.Kind{"f": api.File, "d": api.Dir, "l": api.Link, "h": api.Hard}[part[0]]}
		switch part[0] {
		case "f":
			e.Data, _ = hex.DecodeString(strings.TrimPrefix(part[3], "-"))
			fallthrough
		case "d":
			e.Mode, _ = strconv.Atoi(part[2])
		default:
			e.Link = part[2]
		}
		l = append(l, e)
	}
	return x.put(tarfmt.Print(l...))
}

// gone lets a word go from tags or pins.
func (x *abstract) gone(words map[string]string, word string) string {
	if _, ok := words[word]; !ok {
		return "no 4"
	}
	delete(words, word)
	return x.collect()
}

// standing is words with what they stand for, as tags and pins tell them.
func standing(words map[string]string) string {
	var list []string
	for _, word := range slices.Sorted(maps.Keys(words)) {
		list = append(list, word+"="+words[word])
	}
	return yes(list...)
}

// do is the answer to a line, but of free, which only the pages know.
func (x *abstract) do(line string) string {
	if len(line) > 4096 {
		return "no 6"
	}
	if !isCommand(line) {
		return "no 15"
	}
	words := append(strings.Split(line, " "), "", "")
	one, two := words[1], words[2]
	_, there := x.blobs[one]
	switch words[0] {
	case "put":
		b, _ := hex.DecodeString(strings.TrimPrefix(one, "-"))
		return x.put(b, api.OK)
	case "manifest":
		if !manifest.IsWord(one) || !manifest.IsWord(two) {
			return "no 8"
		}
		return x.put(imageOf(one, two, words[3:len(words)-2]...), api.OK)
	case "layer":
		return x.layer(words[1 : len(words)-2])
	case "get", "count":
		if !there {
			return "no 4"
		}
		if words[0] == "get" {
			return "ok " + Hex(x.blobs[one])
		}
		return "ok " + strconv.Itoa(x.count(one)) + " " + strconv.Itoa(x.holds[one])
	case "release":
		if x.holds[one] == 0 {
			return "no 4"
		}
		x.holds[one]--
		return x.collect()
	case "tag":
		return x.tag(one, two)
	case "untag":
		return x.gone(x.tags, one)
	case "tags":
		return standing(x.tags)
	case "pin":
		return x.pin(one, two)
	case "unpin":
		if _, ok := x.pins[one]; ok {
			delete(x.trees, one)
		}
		return x.gone(x.pins, one)
	case "pins":
		return standing(x.pins)
	case "ls":
		return x.ls(one)
	case "cat":
		return x.cat(one)
	case "tar":
		return x.tar(one)
	case "blobs":
		return yes(slices.Sorted(maps.Keys(x.blobs))...)
	}
	return "ok" // audit
}

// row is numbers by a rule, each below a bound; others for each seed.
func row(seed uint32) func(below int) int {
	x := seed*2654435761 + 12345
	return func(below int) int {
		x = x*1664525 + 1013904223
		return int(x>>8) % below
	}
}

// author writes lines by a rule, mostly of what the abstract store has.
type author struct {
	*abstract
	next func(below int) int
}

func (a author) oneOf(list ...string) string {
	return list[a.next(len(list))]
}

func (a author) known(words map[string]string) string {
	if list := slices.Sorted(maps.Keys(words)); len(list) > 0 && a.next(6) > 0 {
		return a.oneOf(list...)
	}
	return a.oneOf("a", "b", "c", "d", "e", "x", "No", strings.Repeat("w", 24), strings.Repeat("w", 25), "a/b", "-")
}

// digest is one that is there, of a manifest or of another blob, then mostly of a layer.
func (a author) digest(image bool) string {
	var list []string
	for _, h := range slices.Sorted(maps.Keys(a.blobs)) {
		_, e := layer.Read(a.blobs[h])
		if _, ok := a.layers(h); ok == image && (image || e == api.OK || a.next(12) == 0) {
			list = append(list, h)
		}
	}
	if len(list) == 0 || a.next(12) == 0 {
		return a.oneOf(none, digestOf(nil), none[1:], none+"0", strings.ToUpper(digestOf([]byte("x"))), "-")
	}
	return a.oneOf(list...)
}

func (a author) entry() string {
	name := a.oneOf("a", "b", "a/c", "b/d", "b/d/e", "./a", ".wh.a", "b/.wh.d", "b/.wh..wh..opq", ".wh.", "..", "", strings.Repeat("n", 60), "b/", "q"+strings.Repeat("/d", 14))
	mode := a.oneOf("420", "493", "0", "420", "4096", "493", "4095", "4096", "0420", "1099511627776", "1099511627777", "")
	digits := a.oneOf("-", "00", "6869", strings.Repeat("7a", 600), "6", "", "AA")
	if a.next(8) > 0 { // mostly what may be laid out
		name, mode, digits = a.oneOf("a", "b", "a/c", "b/d", "./c", ".wh.a", "b/.wh.d"), a.oneOf("420", "493", "0"), a.oneOf("-", "00", "6869", strings.Repeat("7a", 300))
	}
	return a.oneOf("f:"+name+":"+mode+":"+digits, "f:"+name+":"+mode+":"+digits, "f:"+name+":"+mode+":"+digits, "d:"+name+":"+mode, "l:"+name+":a", a.oneOf("h:"+name+":"+a.oneOf("a", "b/d", "/"), "x:a:420"))
}

func (a author) path() string {
	word := a.known(a.pins)
	path := "/" + word
	if tree := a.trees[word]; len(tree) > 0 && a.next(3) > 0 {
		path += tree[a.next(len(tree))].Path
	}
	return a.oneOf(path, path, path, path, path, path, "/", path[1:], path+"/", "/"+path, path+"/..", path+"/x", path+"/a")
}

func (a author) line() string {
	line := ""
	switch a.next(28) {
	case 0, 1:
		line = "put " + a.oneOf("-", "61", "616263", "6", "xx", strings.Repeat("00", 700))
	case 2, 3, 4, 5:
		line = "manifest " + a.oneOf("os", "linux", "os", "linux", "Os") + " arm"
		for range 1 + a.next(3) - a.next(2)*a.next(2) + a.next(2)*a.next(2)*a.next(2)*6 {
			line += " " + a.digest(false)
		}
	case 6, 7, 8, 9:
		line = "layer"
		for range a.next(5) + a.next(2)*a.next(2)*a.next(2)*14 {
			line += " " + a.entry()
		}
	case 10:
		line = "get " + a.digest(a.next(2) == 0)
	case 11:
		line = "count " + a.digest(a.next(2) == 0)
	case 12, 13:
		line = "release " + a.digest(a.next(2) == 0)
	case 14, 15, 16:
		line = "tag " + a.known(nil) + " " + a.digest(a.next(8) > 0)
	case 17, 18, 19:
		line = "pin " + a.known(nil) + " " + a.known(a.tags)
	case 20:
		line = a.oneOf("untag "+a.known(a.tags), "unpin "+a.known(a.pins))
	case 21, 22:
		line = "ls " + a.path()
	case 23, 24:
		line = "cat " + a.path()
	case 25:
		line = "tar " + a.known(a.pins)
	case 26:
		line = a.oneOf("tags", "pins", "blobs", "audit")
	case 27:
		line = a.oneOf("", " ", "tags x", "put", "pins ", " blobs", "x", "free free", "ls", "tag t", "get "+none+" x", strings.Repeat("x", 4097))
	}
	if a.next(40) == 0 {
		line = strings.Replace(line, " ", "  ", 1)
	}
	return line
}

// E2, P16.1, P16.4, P16.6, E3, E5, E6, E7: lines by a rule have the abstract store's answers; all is as it must be behind each of them;
// those with an error change nothing; closed and opened again the store is the same; at the end all goes, and all room is free again.
func TestAgainstTheAbstractStore(t *testing.T) {
	seen := map[string]int{}
	for seed := range uint32(16) {
		s := made(t, leastSectors+60+int(seed%4)*120)
		a := author{newAbstract(), row(seed)}
		free := s.Do("free")
		for range 300 {
			line := a.line()
			ops := s.Disk().Ops()
			got := s.Do(line)
			seen[outcome(line, got)]++
			if got != "no 7" { // how much room there is, the abstract store does not know
				if answer := a.do(line); got != answer {
					t.Fatalf("seed %d, %s: %s, want %s", seed, brief(line), brief(got), brief(answer))
				}
			}
			changed := s.Disk().Ops() != ops
			if strings.HasPrefix(got, "no") && changed {
				t.Fatalf("seed %d, %s: %s, but something has changed", seed, brief(line), got)
			}
			if changed && s.Check() != api.OK {
				t.Fatalf("seed %d, %s: Check: error %d", seed, brief(line), s.Check())
			}
			if a.next(30) == 0 {
				s = opened(t, s.Disk())
			}
		}
		a.endWith(t, s)
		want(t, s, "blobs", "ok")
		want(t, s, "free", free)
	}
	for what := range strings.SplitSeq("put ok,manifest ok,manifest no 8,layer ok,layer no 2,layer no 8,get ok,get no 4,count ok,count no 4,release ok,release no 4,"+
		"tag ok,tag no 3,tag no 4,tag no 8,untag ok,untag no 4,pin ok,pin no 4,pin no 5,pin no 8,pin no 13,unpin ok,unpin no 4,"+
		"ls ok,ls no 4,ls no 8,ls no 10,cat ok,cat no 4,cat no 8,cat no 10,tar ok,tar no 4,layer no 7,pin no 7", ",") {
		if seen[what] == 0 {
			t.Errorf("%s: never", what)
		}
	}
}

// outcome is a line's command, and ok, or its error.
func outcome(line, answer string) string {
	command, _, _ := strings.Cut(line, " ")
	if strings.HasPrefix(answer, "ok") {
		return command + " ok"
	}
	return command + " " + answer
}

// endWith lets all references go.
func (a author) endWith(t *testing.T, s *Shell) {
	t.Helper()
	for word := range maps.Clone(a.pins) {
		want(t, s, "unpin "+word, a.do("unpin "+word))
	}
	for word := range maps.Clone(a.tags) {
		want(t, s, "untag "+word, a.do("untag "+word))
	}
	for h, n := range maps.Clone(a.holds) {
		for range n {
			want(t, s, "release "+h, a.do("release "+h))
		}
	}
}

// E2, P16.2 (Run): whole scripts have the abstract store's answers.
func TestScriptsAgainstTheAbstractStore(t *testing.T) {
	for seed := range uint32(8) {
		a := author{newAbstract(), row(100 + seed)}
		var script, answers bytes.Buffer
		for {
			line := a.line()
			if script.Len()+len(line)+1 > api.MaxScript {
				break
			}
			script.WriteString(line + "\n")
			answers.WriteString(a.do(line) + "\n")
		}
		got := Run(script.String())
		if got != answers.String() {
			for k, line := range strings.Split(script.String(), "\n") {
				if x, y := strings.Split(got, "\n")[k], strings.Split(answers.String(), "\n")[k]; x != y {
					t.Fatalf("seed %d, %s: %s, want %s", seed, brief(line), brief(x), brief(y))
				}
			}
		}
		if cut := strings.TrimSuffix(script.String(), "\n"); Run(cut) != got {
			t.Errorf("seed %d: without the last line feed", seed)
		}
	}
}
