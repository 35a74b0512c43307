package tarfmt

import (
	"archive/tar"
	"bytes"
	"fmt"
	"io"
	"slices"
	"testing"

	"dunnage/api"
)

// P12.2: what is not a tar from its beginning on
func TestNoTars(t *testing.T) {
	wantNone(t, "nil", nil, 0)
	for n := range 1024 {
		wantNone(t, "noughts", make([]byte, n), 0)
		wantNone(t, "bytes", data(n), 0)
	}
	for _, c := range []byte{1, ' ', '0', 0xff} {
		wantNone(t, "one byte again and again", bytes.Repeat([]byte{c}, 2048), 0)
	}
}

// P12.2: MaxTar bytes, and one more
func TestMostBytes(t *testing.T) {
	whole := api.MaxTar / 512 * 512
	wantParsed(t, make([]byte, whole))
	wantNone(t, "no multiple of 512", make([]byte, api.MaxTar), 0)
	l := []api.Entry{file("a", 420, data(700))}
	wantParsed(t, append(tarOf(l...), make([]byte, whole-len(tarOf(l...)))...), l...)
	wantNone(t, "no multiple of 512", append(tarOf(l...), make([]byte, api.MaxTar-len(tarOf(l...)))...), 1536)
	for _, n := range []int{api.MaxTar + 1, whole + 512, 1 << 20} {
		for _, b := range [][]byte{make([]byte, n), append(tarOf(l...), make([]byte, n-2560)...), bytes.Repeat([]byte{'x'}, n)} {
			if l, e, at := Parse(b); len(l) != 0 || e != api.ErrLong || at != 0 {
				t.Errorf("Parse of %d bytes: %d entries, error %d, place %d", n, len(l), e, at)
			}
		}
	}
}

// P12.1, P12.2: the greatest tars there are, and what would be greater by one entry, or one byte
func TestMostOfATar(t *testing.T) {
	most := api.MaxTar/512 - 2
	dirs := make([]api.Entry, 300)
	for i := range dirs {
		dirs[i] = api.Entry{Name: fmt.Sprint("d", i), Kind: api.Dir, Mode: i}
	}
	wantPrinted(t, dirs[:most]...)
	for _, n := range []int{most + 1, api.MaxEntries, api.MaxEntries + 1, len(dirs)} {
		wantNotPrinted(t, api.ErrLong, dirs[:n]...)
	}
	wantPrinted(t, file("f", 420, data(512*(most-1))))
	wantNotPrinted(t, api.ErrLong, file("f", 420, data(512*(most-1)+1)))
	wantNotPrinted(t, api.ErrLong, file("f", 420, data(api.MaxFile)))
	wantPrinted(t, dirs[0], file("f", 420, data(512*(most-2))))
	wantNotPrinted(t, api.ErrLong, dirs[0], file("f", 420, data(512*(most-2)+1)))
	wantNotPrinted(t, api.ErrLong, dirs[0], file("f", 420, data(512*(most-1))))
	wantPrinted(t, file("f", 420, data(512*(most-3))), file("g", 420, data(1)))
	wantNotPrinted(t, api.ErrLong, file("f", 420, data(512*(most-3))), file("g", 420, data(513)))
}

func wantNotPrinted(t *testing.T, want api.Errno, l ...api.Entry) {
	t.Helper()
	if b, e := Print(l...); len(b) != 0 || e != want {
		t.Errorf("Print of %d entries: %d bytes, error %d, want %d", len(l), len(b), e, want)
	}
}

// P12.1, P2: the first entry that is not right, ahead of all that is too much
func TestFirstWrongEntry(t *testing.T) {
	wrong := map[api.Errno]api.Entry{
		api.ErrRange: {Name: "", Kind: 9},
		api.ErrName:  {Name: "", Kind: api.File},
		api.ErrForm:  {Name: "a", Kind: api.Link},
		api.ErrLong:  file("a", 0, data(api.MaxFile+1)),
	}
	for _, n := range []int{1, 2, 115, 116, api.MaxEntries, api.MaxEntries + 1, 400} {
		for want, e := range wrong {
			for _, at := range []int{0, n / 2, n - 1} {
				l := slices.Repeat([]api.Entry{rights()[1]}, n)
				l[at] = e
				wantNotPrinted(t, want, l...)
				for other := range wrong {
					wantNotPrinted(t, want, append(l, wrong[other])...)
				}
			}
		}
	}
}

// P12.2: cut at each byte; the place is that of the header which is not there, or whose data is not
func TestCut(t *testing.T) {
	l := []api.Entry{file("a", 420, data(513)), rights()[1], file("b", 420, nil), file("c", 420, data(512)), rights()[3]}
	places := []int{0, 1536, 2048, 2560, 3584, 4096}
	b := tarOf(l...)
	for n := range b {
		want := 0
		for _, place := range places {
			if n >= place {
				want = place
			}
		}
		wantNone(t, fmt.Sprint("cut to ", n), b[:n], want)
	}
	wantParsed(t, b, l...)
}

// P12.2: data that is not filled with noughts, each byte of it
func TestFilling(t *testing.T) {
	for _, n := range []int{1, 2, 255, 510, 511, 513, 1023} {
		l := []api.Entry{rights()[1], file("a", 420, data(n)), rights()[2]}
		b := tarOf(l...)
		for at := 1024; at < 1024+(n+511)/512*512; at++ {
			b[at]++
			if at < 1024+n {
				l[1].Data[at-1024]++
				wantParsed(t, b, l...)
				l[1].Data[at-1024]--
			} else {
				wantNone(t, "filled with others", b, 512)
			}
			b[at]--
		}
	}
}

// P12.2: sizes that are not what follows
func TestSizes(t *testing.T) {
	for n := 1; n < 1600; n++ {
		size := func(h []byte) { copy(h[124:], fmt.Sprintf("%011o", n)) }
		for _, e := range rights()[1:4] {
			wantNoHeader(t, "a size of no file", e, size)
			b := changed(e, size)
			filling := make([]byte, (n+511)/512*512)
			wantNone(t, "a size of no file, and data", slices.Insert(b, 1024, filling...), 512)
		}
	}
	const whole = 700
	for n := range 1100 {
		b := changed(file("a", 420, data(whole)), func(h []byte) { copy(h[124:], fmt.Sprintf("%011o", n)) })
		switch {
		case n == 0: // data stands where a header should
			wantNone(t, "no size", b, 1024)
		case n == 512:
			wantNone(t, "whole headers", b, 1536)
		case n < whole:
			wantNone(t, "too small", b, 512)
		case n <= 1024: // the filling is data
			want := append(data(whole), make([]byte, n-whole)...)
			wantParsed(t, b, rights()[1], file("a", 420, want), rights()[2])
		}
	}
	for _, digits := range []string{"00000170000", "00000252000", "17777777777", "20000000000", "37777777777", "40000000000", "77777777777"} {
		wantNoHeader(t, "a great size", file("a", 420, nil), func(h []byte) { copy(h[124:], digits) })
	}
}

// P12.2: how a tar ends, and the place that is told
func TestEnds(t *testing.T) {
	for _, l := range [][]api.Entry{nil, {rights()[0]}, rights()} {
		b := tarOf(l...)
		end := len(b) - 1024
		wantNone(t, "none of the two", b[:end], end)
		wantNone(t, "one alone", b[:end+512], end)
		for k := range 20 {
			wantParsed(t, append(slices.Clone(b), make([]byte, 512*k)...), l...)
			for _, n := range []int{1, 100, 511} {
				wantNone(t, "no multiple of 512", append(slices.Clone(b), make([]byte, 512*k+n)...), end)
			}
		}
		behind := tarOf(rights()[1])
		wantNone(t, "one, and a header", slices.Concat(b[:end+512], behind), end)
		wantNone(t, "one, and a header that is none", slices.Concat(b[:end+512], data(2048)), end)
		wantNone(t, "two, and a header", slices.Concat(b, behind), end)
		wantNone(t, "three, and a header", slices.Concat(b, make([]byte, 512), behind), end)
		wantNone(t, "two, and bytes", slices.Concat(b, data(512)), end)
		wantNone(t, "two, and a piece", slices.Concat(b, data(3)), end)
	}
}

// P12.2, P12.5: each byte behind the first header of noughts
func TestEachByteOfTheEnd(t *testing.T) {
	for _, l := range [][]api.Entry{nil, {rights()[0], rights()[3]}} {
		b := append(tarOf(l...), make([]byte, 1536)...)
		end := len(b) - 2560
		for at := end; at < len(b); at++ {
			for _, c := range []byte{1, ' ', 'a', 0xff} {
				b[at] = c
				wantNone(t, "no nought", b, end)
			}
			b[at] = 0
		}
	}
}

// P12.2: the first header that is none, of several
func TestFirstOfSeveral(t *testing.T) {
	l := rights()
	place := func(i int) int { return len(tarOf(l[:i]...)) - 1024 }
	for i := range l {
		for j := i; j < len(l); j++ {
			b := tarOf(l...)
			b[place(i)+148] = '7'
			b[place(j)+148] = '7'
			wantNone(t, "two of them", b, place(i))
			wantNone(t, "two of them, and something behind", append(b, 1), place(i))
		}
	}
}

// P12.4: what is parsed is printed, and is parsed as the same, also if the tar was written in another way.
func TestPrintedAgain(t *testing.T) {
	for _, e := range each() {
		for _, change := range []func(h []byte){
			func(h []byte) { h[107] = ' ' },
			func(h []byte) { copy(h[108:], "0001750\x000001750 ") },
			func(h []byte) { copy(h[265:], "user") },
			func(h []byte) { copy(h[345:], "a/b") },
			func(h []byte) { copy(h[345:], many(154)); copy(h, many(100)) },
			func(h []byte) { copy(h[136:], "14751237742") },
			func(h []byte) {
				if h[156] == 48 {
					h[156] = 0
				}
			},
		} {
			b := append(changed(e, change), make([]byte, 4096)...)
			l, err, _ := Parse(b)
			wantError(t, "Parse", err, api.OK)
			again, err := Print(l...)
			wantError(t, "Print", err, api.OK)
			wantParsed(t, again, l...)
		}
	}
}

// another is the tar that Go's own library writes of entries.
func another(t *testing.T, l ...api.Entry) []byte {
	t.Helper()
	types := map[api.Kind]byte{api.File: tar.TypeReg, api.Hard: tar.TypeLink, api.Link: tar.TypeSymlink, api.Dir: tar.TypeDir}
	var b bytes.Buffer
	w := tar.NewWriter(&b)
	for _, e := range l {
		h := &tar.Header{Typeflag: types[e.Kind], Name: e.Name, Mode: int64(e.Mode), Linkname: e.Link, Size: int64(len(e.Data)), Format: tar.FormatUSTAR, Uname: "user", Gname: "group", Uid: 1000, Gid: 100}
		if err := w.WriteHeader(h); err != nil {
			t.Fatal(e.Name, err)
		}
		w.Write(e.Data)
	}
	w.Close()
	return b.Bytes()
}

// P12.2, P12.3: ustar as others write it, and as they read it
func TestOthersTars(t *testing.T) {
	l := slices.DeleteFunc(rights(), func(e api.Entry) bool { // that library writes none of these
		return e.Name == "/" || e.Name[0] == 0xff || e.Link == "/\xff\x01 "
	})
	wantParsed(t, another(t, l...), l...)
	b, err := Print(rights()...)
	wantError(t, "Print", err, api.OK)
	r := tar.NewReader(bytes.NewReader(b))
	for _, e := range rights() {
		h, err := r.Next()
		if err != nil {
			t.Fatal(err)
		}
		got, err := io.ReadAll(r)
		if err != nil || h.Name != e.Name || h.Mode != int64(e.Mode) || h.Linkname != e.Link || !bytes.Equal(got, e.Data) || h.Uid != 0 || h.Gid != 0 || h.Uname != "" || h.Gname != "" || h.ModTime.Unix() != 0 {
			t.Errorf("%q is read as %v (%v)", e.Name, h, err)
		}
	}
	if _, err := r.Next(); err != io.EOF {
		t.Error("behind the last entry: ", err)
	}
}
