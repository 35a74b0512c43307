package cli

import (
	"bytes"
	"crypto/sha256"
	"encoding/binary"
	"hash/crc32"
	"strconv"
	"strings"
	"testing"

	"dunnage/api"
	"dunnage/disk"
)

// none is a digest that no blob has.
var none = strings.Repeat("0", 64)

// P16.1: put, get, count, release, blobs
func TestBlobs(t *testing.T) {
	s := made(t, 400)
	free := s.Do("free")
	a, b := digestOf([]byte("a")), digestOf([]byte("b"))
	for _, x := range [][2]string{
		{"blobs", "ok"}, {"put 61", "ok " + a}, {"put 62", "ok " + b}, {"put 61", "ok " + a}, {"count " + a, "ok 2 2"}, {"count " + b, "ok 1 1"},
		{"get " + a, "ok 61"}, {"blobs", "ok " + b + " " + a}, {"release " + a, "ok"}, {"count " + a, "ok 1 1"}, {"release " + a, "ok"},
		{"get " + b, "ok 62"}, {"blobs", "ok " + b}, {"release " + b, "ok"}, {"blobs", "ok"}, {"free", free},
		{"put -", "ok " + digestOf(nil)}, {"get " + digestOf(nil), "ok -"}, {"count " + digestOf(nil), "ok 1 1"},
	} {
		want(t, s, x[0], x[1])
	}
	if !strings.HasPrefix(b, "3e") || !strings.HasPrefix(a, "ca") {
		t.Error("the digests' order")
	}
	for _, h := range []string{a, b, none} {
		for _, command := range []string{"get ", "count ", "release "} {
			wantNo(t, s, command+h, api.ErrNone)
		}
	}
}

// withHolds lets a blob that is the only one have so many holds: its number stands behind its digest in /refs, and the sum at the end.
func withHolds(t *testing.T, s *Shell, b []byte, holds int) {
	t.Helper()
	f := s.Store().Blobs().FS()
	refs, e := f.Read("/refs")
	wantError(t, "Read", e, api.OK)
	h := sha256.Sum256(b)
	at, end := bytes.Index(refs, h[:])+len(h), len(refs)-4
	copy(refs[at:], []byte{byte(holds >> 16), byte(holds >> 8), byte(holds)})
	binary.BigEndian.PutUint32(refs[end:], crc32.Checksum(refs[:end], crc32.MakeTable(crc32.Castagnoli)))
	wantError(t, "Write", f.Write("/refs", 420, refs...), api.OK)
}

// P16.1 (put): MaxHolds holds, and one more; a blob whose bytes are others
func TestPutErrors(t *testing.T) {
	s := made(t, 400)
	a := digestOf([]byte("a"))
	want(t, s, "put 61", "ok "+a)
	withHolds(t, s, []byte("a"), api.MaxHolds-1)
	want(t, s, "count "+a, "ok 1048575 1048575")
	want(t, s, "put 61", "ok "+a)
	want(t, s, "count "+a, "ok 1048576 1048576")
	wantNo(t, s, "put 61", api.ErrRange)
	want(t, s, "release "+a, "ok")
	want(t, s, "put 61", "ok "+a)
	wantNo(t, s, "put 61", api.ErrRange)
	wantError(t, "Write", s.Store().Blobs().FS().Write("/blobs/"+a[:6]+"/"+a[6:], 292, 'b'), api.OK)
	want(t, s, "tags", "ok")
	wantNo(t, s, "put 61", api.ErrDigest)
}

// P16.1: tag, untag, tags, pin, unpin, pins, and what they refuse
func TestWords(t *testing.T) {
	s, l, m := planted(t, 600)
	want(t, s, "put 61", "ok "+digestOf([]byte("a")))
	lost := told(t, s, "manifest os arm "+none)
	bad := told(t, s, "manifest os arm "+digestOf([]byte("a")))
	long := strings.Repeat("w", api.MaxWord)
	for _, x := range [][2]string{
		{"tags", "ok t=" + m}, {"pins", "ok p=" + m}, {"tag " + long + " " + m, "ok"}, {"tag 0 " + bad, "ok"}, {"tags", "ok 0=" + bad + " t=" + m + " " + long + "=" + m},
		{"count " + m, "ok 4 1"}, {"count " + l, "ok 1 0"}, {"pin " + long + " t", "ok"}, {"pin - " + long, "ok"}, {"pins", "ok -=" + m + " p=" + m + " " + long + "=" + m},
		{"ls /", "ok - p " + long}, {"count " + m, "ok 6 1"}, {"untag t", "ok"}, {"unpin -", "ok"}, {"count " + m, "ok 4 1"}, {"tag t " + m, "ok"}, {"tag t " + bad, "ok"}, {"tag t " + m, "ok"},
	} {
		want(t, s, x[0], x[1])
	}
	for line, e := range map[string]api.Errno{
		"tag T " + m: api.ErrName, "tag " + long + "w " + m: api.ErrName, "tag a/b " + m: api.ErrName, "tag t " + none: api.ErrNone, "tag T " + none: api.ErrName, "tag t " + l: api.ErrForm,
		"tag t " + lost: api.ErrNone, "untag x": api.ErrNone, "untag T": api.ErrNone, "untag p": api.ErrNone, "untag " + long + "w": api.ErrNone,
		"pin P t": api.ErrName, "pin q x": api.ErrNone, "pin q T": api.ErrNone, "pin P x": api.ErrName, "pin p t": api.ErrKnown, "pin p x": api.ErrNone, "pin q 0": api.ErrLayer,
		"unpin x": api.ErrNone, "unpin P": api.ErrNone, "unpin t": api.ErrNone,
		"manifest Os arm": api.ErrName, "manifest os Arm " + l: api.ErrName, "manifest os " + long + "w": api.ErrName, "manifest a.b c": api.ErrName,
	} {
		wantNo(t, s, line, e)
	}
}

// P16.1: MaxTags tags and MaxPins pins, and one more
func TestMostWords(t *testing.T) {
	s, _, m := planted(t, 1000)
	for n := range api.MaxTags - 1 {
		want(t, s, "tag t"+strconv.Itoa(n)+" "+m, "ok")
	}
	wantNo(t, s, "tag more "+m, api.ErrLong)
	for n := range api.MaxPins - 1 {
		want(t, s, "pin p"+strconv.Itoa(n)+" t", "ok")
	}
	wantNo(t, s, "pin more t", api.ErrLong)
	want(t, s, "tag t0 "+m, "ok")
	want(t, s, "untag t0", "ok")
	want(t, s, "unpin p0", "ok")
	want(t, s, "tag more "+m, "ok")
	want(t, s, "pin more more", "ok")
}

// P16.1: ls and cat of /, of what is there, of what is not, of paths that are none
func TestPaths(t *testing.T) {
	s, _, _ := planted(t, 400)
	for _, x := range [][2]string{
		{"ls /", "ok p"}, {"ls /p", "ok a b k"}, {"ls /p/b", "ok c h"}, {"cat /p/a", "ok 6869"}, {"cat /p/b/c", "ok -"}, {"cat /p/b/h", "ok 6869"},
	} {
		want(t, s, x[0], x[1])
	}
	for path, e := range map[string][2]api.Errno{
		"/x": {api.ErrNone, api.ErrNone}, "/x/y": {api.ErrNone, api.ErrNone}, "/p/x": {api.ErrNone, api.ErrNone}, "/p/b/x": {api.ErrNone, api.ErrNone},
		"/p/a/x": {api.ErrDir, api.ErrDir}, "/p/k/x": {api.ErrDir, api.ErrDir}, "/p/k": {api.ErrDir, api.ErrDir},
		"p": {api.ErrName, api.ErrName}, "p/a": {api.ErrName, api.ErrName}, ".": {api.ErrName, api.ErrName}, "-": {api.ErrName, api.ErrName}, "x": {api.ErrName, api.ErrName},
		"//": {api.ErrName, api.ErrName}, "/p/": {api.ErrName, api.ErrName}, "/p//a": {api.ErrName, api.ErrName}, "//p": {api.ErrName, api.ErrName},
		"/.": {api.ErrName, api.ErrName}, "/..": {api.ErrName, api.ErrName}, "/../refs": {api.ErrName, api.ErrName}, "/p/../p": {api.ErrName, api.ErrName}, "/p\x00": {api.ErrName, api.ErrName},
		"/" + strings.Repeat("n", 60): {api.ErrName, api.ErrName}, "/" + strings.Repeat("n", 59): {api.ErrNone, api.ErrNone},
		strings.Repeat("/d", 15): {api.ErrNone, api.ErrNone}, strings.Repeat("/d", 16): {api.ErrName, api.ErrName},
		strings.Repeat("/"+strings.Repeat("n", 30), 8): {api.ErrNone, api.ErrNone}, strings.Repeat("/"+strings.Repeat("n", 30), 8) + "/": {api.ErrName, api.ErrName},
	} {
		wantNo(t, s, "ls "+path, e[0])
		wantNo(t, s, "cat "+path, e[1])
	}
	for line, e := range map[string]api.Errno{"cat /": api.ErrDir, "cat /p": api.ErrDir, "cat /p/b": api.ErrDir, "ls /p/a": api.ErrDir, "ls p": api.ErrName, "cat s": api.ErrName, "ls s/p": api.ErrName} {
		wantNo(t, s, line, e)
	}
	want(t, s, "unpin p", "ok")
	want(t, s, "ls /", "ok")
	wantNo(t, s, "ls /p", api.ErrNone)
}

// P16.1, P16.4 (E6): files of a pin that lower layers put and higher ones take away
func TestLayers(t *testing.T) {
	s := made(t, 600)
	one := told(t, s, "layer f:a:420:01 f:d/x:420:02 f:d/y:420:03")
	two := told(t, s, "layer f:.wh.a:420:- f:d/x:420:04")
	three := told(t, s, "layer f:d/.wh..wh..opq:420:- f:d/z:420:05")
	for n, x := range []struct{ layers, top, d string }{
		{one, "a d", "x y"}, {one + " " + two, "d", "x y"}, {one + " " + two + " " + three, "d", "z"}, {two + " " + one, "a d", "x y"}, {three, "d", "z"},
	} {
		word := "p" + strconv.Itoa(n)
		m := told(t, s, "manifest os arm "+x.layers)
		want(t, s, "tag t "+m, "ok")
		want(t, s, "pin "+word+" t", "ok")
		want(t, s, "ls /"+word, "ok "+x.top)
		want(t, s, "ls /"+word+"/d", "ok "+x.d)
		want(t, s, "release "+m, "ok")
	}
	want(t, s, "cat /p0/d/x", "ok 02")
	want(t, s, "cat /p1/d/x", "ok 04")
	want(t, s, "cat /p3/d/x", "ok 02")
}

// P16.1: tar of a pin is a layer by itself, which lays out the same; of what is no pin
func TestTar(t *testing.T) {
	s, l, _ := planted(t, 600)
	tar := told(t, s, "tar p")
	entries := tarOf(t,
		api.Entry{Name: "a", Kind: api.File, Mode: 420, Data: []byte("hi")}, api.Entry{Name: "b/", Kind: api.Dir, Mode: 493},
		api.Entry{Name: "b/c", Kind: api.File, Mode: 256}, api.Entry{Name: "b/h", Kind: api.File, Mode: 420, Data: []byte("hi")},
		api.Entry{Name: "k", Kind: api.Link, Mode: 511, Link: "a"})
	if tar != digestOf(entries) || tar == l {
		t.Errorf("tar: %s", tar)
	}
	want(t, s, "count "+tar, "ok 1 1")
	want(t, s, "get "+tar, "ok "+Hex(entries))
	m := told(t, s, "manifest os arm "+tar)
	want(t, s, "tag u "+m, "ok")
	want(t, s, "pin q u", "ok")
	for _, x := range [][2]string{{"ls /q", "ok a b k"}, {"ls /q/b", "ok c h"}, {"cat /q/b/h", "ok 6869"}, {"tar q", "ok " + tar}, {"count " + tar, "ok 3 2"}} {
		want(t, s, x[0], x[1])
	}
	for _, word := range []string{"t", "u", "x", "P", "/p", "p/b", ".", "..", strings.Repeat("p", 300), tar} {
		wantNo(t, s, "tar "+word, api.ErrNone)
	}
	empty := told(t, s, "manifest os arm")
	want(t, s, "tag t "+empty, "ok")
	want(t, s, "pin e t", "ok")
	want(t, s, "tar e", "ok "+digestOf(make([]byte, 1024)))
}

// P16.1: tar's other errors: a pin whose tar has more than MaxBlob bytes, one of more than MaxTar, one that a tar has no room for
func TestTarTooLong(t *testing.T) {
	s := made(t, 2000)
	layers := ""
	for n := range 5 {
		b := tarOf(t, api.Entry{Name: strconv.Itoa(n), Kind: api.File, Mode: 420, Data: []byte(strings.Repeat("x", 13000+n))})
		h, e := s.Store().Put(b...)
		wantError(t, "Put", e, api.OK)
		layers += " " + Hex(h[:])
		if n == 0 || n == 3 {
			continue
		}
		m := told(t, s, "manifest os arm"+layers)
		want(t, s, "tag t"+strconv.Itoa(n)+" "+m, "ok")
	}
	want(t, s, "pin one t1", "ok")
	want(t, s, "pin two t2", "ok")
	want(t, s, "tar one", "ok "+told(t, s, "tar one"))
	wantNo(t, s, "tar two", api.ErrLong)
	wantNo(t, s, "pin four t4", api.ErrFull)
	want(t, s, "ls /", "ok one two")
	f := s.Store().Blobs().FS()
	for n := range 4 {
		wantError(t, "Write", f.Write("/roots/two/more"+strconv.Itoa(n), 420, make([]byte, 5000)...), api.OK)
	}
	want(t, s, "ls /two", "ok 0 1 2 more0 more1 more2 more3")
	wantNo(t, s, "tar two", api.ErrLong)
	wantError(t, "Symlink", f.Symlink("/roots/two/long", strings.Repeat("x", 101)), api.OK)
	want(t, s, "ls /two", "ok 0 1 2 long more0 more1 more2 more3")
	wantNo(t, s, "tar two", api.ErrForm)
}

// P16.1, P16.6: a store that runs full answers no 7, and goes on.
func TestFull(t *testing.T) {
	s := made(t, leastSectors+40)
	free := s.Do("free")
	var all []string
	for n := 0; ; n++ {
		answer := s.Do("put " + strings.Repeat("6", 2000+2*n))
		if answer == "no 7" {
			break
		}
		all = append(all, strings.TrimPrefix(answer, "ok "))
	}
	if len(all) < 5 {
		t.Errorf("%d blobs", len(all))
	}
	wantNo(t, s, "put "+strings.Repeat("6", 4000), api.ErrFull)
	wantNo(t, s, "layer f:a:420:"+strings.Repeat("6", 4000), api.ErrFull)
	for _, h := range all {
		want(t, s, "count "+h, "ok 1 1")
		want(t, s, "release "+h, "ok")
	}
	want(t, s, "blobs", "ok")
	want(t, s, "free", free)
}

// P16.5 (E7): with nothing tagged, pinned and held free tells what it told at first, in whatever order things go.
func TestGivenBack(t *testing.T) {
	for _, order := range [][]string{
		{"untag t", "unpin p", "release M"}, {"release M", "untag t", "unpin p"}, {"unpin p", "release M", "untag t"}, {"release M", "unpin p", "untag t"},
		{"untag t", "put 61", "release M", "unpin p", "release A"},
	} {
		free := made(t, 400).Do("free")
		s, _, m := planted(t, 400)
		for _, line := range order {
			line = strings.NewReplacer("M", m, "A", digestOf([]byte("a"))).Replace(line)
			if answer := s.Do(line); !strings.HasPrefix(answer, "ok") {
				t.Errorf("%s: %s", line, answer)
			}
		}
		for _, x := range [][2]string{{"blobs", "ok"}, {"tags", "ok"}, {"pins", "ok"}, {"ls /", "ok"}, {"free", free}} {
			want(t, s, x[0], x[1])
			want(t, opened(t, s.Disk()), x[0], x[1])
		}
	}
}

// P16.1: lines that only ask write nothing.
func TestAskingWritesNothing(t *testing.T) {
	s, l, _ := planted(t, 400)
	was := s.Disk()
	for _, line := range []string{"get " + l, "count " + l, "tags", "pins", "ls /", "ls /p", "cat /p/a", "blobs", "audit", "free"} {
		if answer := s.Do(line); !strings.HasPrefix(answer, "ok") {
			t.Errorf("%s: %s", line, answer)
		}
	}
	if now := s.Disk(); now.Ops() != was.Ops() || !disk.Same(was, now) {
		t.Error("something was written")
	}
}
