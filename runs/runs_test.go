package runs_test

import (
	"math"
	"slices"
	"strings"
	"testing"

	"bindle/api"
	"bindle/bits"
	"bindle/canon"
	"bindle/runs"
	"bindle/sample"
	"bindle/weigh"
)

type part = runs.Part

func repeated(n, times int) []int {
	return slices.Repeat([]int{n}, times)
}

// 9.1

func TestPartsExample(t *testing.T) {
	if got, want := runs.Parts([]int{5, 5, 5, 5}), []part{{5, 1}, {16, 3}}; !slices.Equal(got, want) {
		t.Errorf("%d, not %d", got, want)
	}
}

func TestParts(t *testing.T) {
	for _, x := range []struct {
		l    []int
		want []part
	}{
		{nil, nil},
		{[]int{}, nil},
		{[]int{0}, []part{{0, 1}}},
		{[]int{15}, []part{{15, 1}}},
		{[]int{0, 0}, []part{{0, 1}, {0, 1}}},
		{repeated(0, 3), []part{{17, 3}}},
		{repeated(0, 10), []part{{17, 10}}},
		{repeated(0, 11), []part{{18, 11}}},
		{repeated(0, 138), []part{{18, 138}}},
		{repeated(0, 139), []part{{18, 138}, {0, 1}}},
		{repeated(0, 140), []part{{18, 138}, {0, 1}, {0, 1}}},
		{repeated(0, 141), []part{{18, 138}, {17, 3}}},
		{repeated(0, 148), []part{{18, 138}, {17, 10}}},
		{repeated(0, 149), []part{{18, 138}, {18, 11}}},
		{repeated(0, 320), []part{{18, 138}, {18, 138}, {18, 44}}},
		{repeated(4, 3), []part{{4, 1}, {4, 1}, {4, 1}}},
		{repeated(4, 7), []part{{4, 1}, {16, 6}}},
		{repeated(4, 8), []part{{4, 1}, {16, 6}, {4, 1}}},
		{repeated(4, 9), []part{{4, 1}, {16, 6}, {4, 1}, {4, 1}}},
		{repeated(4, 10), []part{{4, 1}, {16, 6}, {16, 3}}},
		{[]int{4, 4, 4, 3, 3, 3, 3}, []part{{4, 1}, {4, 1}, {4, 1}, {3, 1}, {16, 3}}},
		{[]int{4, 0, 0, 0, 4, 4, 4}, []part{{4, 1}, {17, 3}, {4, 1}, {4, 1}, {4, 1}}},
		{[]int{1, 0, 0, 1, 0, 0, 0}, []part{{1, 1}, {0, 1}, {0, 1}, {1, 1}, {17, 3}}},
	} {
		if got := runs.Parts(x.l); !slices.Equal(got, x.want) {
			t.Errorf("Parts(%d): %d, not %d", x.l, got, x.want)
		}
	}
}

func TestPartsOfNone(t *testing.T) {
	for _, l := range [][]int{repeated(1, 321), repeated(0, 321), {16}, {-1}, {1, 2, 16}, {1, 2, -1}, append(repeated(0, 319), 16), {math.MaxInt}, {math.MinInt}} {
		if got := runs.Parts(l); len(got) != 0 {
			t.Errorf("Parts(%d): %d", l, got)
		}
	}
	if got := runs.Parts(repeated(1, 320)); len(got) != 55 {
		t.Errorf("of 320: %d", got)
	}
}

func TestPartsLeavesLengths(t *testing.T) {
	l := []int{3, 3, 3, 3, 0, 0, 0}
	runs.Parts(l)[0] = part{9, 9}
	if !slices.Equal(l, []int{3, 3, 3, 3, 0, 0, 0}) || runs.Parts(l)[0] != (part{3, 1}) {
		t.Errorf("changed: %d", l)
	}
}

func TestJoin(t *testing.T) {
	for _, x := range []struct {
		p    []part
		want []int
	}{
		{nil, nil},
		{[]part{{5, 1}, {16, 3}}, []int{5, 5, 5, 5}},
		{[]part{{0, 1}, {16, 6}}, repeated(0, 7)},
		{[]part{{17, 3}, {16, 3}}, repeated(0, 6)},
		{[]part{{18, 11}, {16, 4}, {1, 1}, {16, 5}, {16, 6}}, append(repeated(0, 15), repeated(1, 12)...)},
		{[]part{{17, 10}, {18, 138}, {15, 1}}, append(repeated(0, 148), 15)},
		{[]part{{18, 138}, {18, 138}, {18, 44}}, repeated(0, 320)},
		{[]part{{18, 138}, {18, 138}, {18, 43}, {2, 1}}, append(repeated(0, 319), 2)},
	} {
		if got, e := runs.Join(x.p); e != api.OK || !slices.Equal(got, x.want) {
			t.Errorf("Join(%d): %d %d, not %d", x.p, got, e, x.want)
		}
	}
}

func TestJoinRefused(t *testing.T) {
	full := []part{{18, 138}, {18, 138}, {18, 44}}
	for _, x := range []struct {
		p    []part
		want api.Errno
	}{
		{[]part{{-1, 1}}, api.ErrForm},
		{[]part{{19, 1}}, api.ErrForm},
		{[]part{{math.MinInt, 1}}, api.ErrForm},
		{[]part{{math.MaxInt, 1}}, api.ErrForm},
		{[]part{{5, 0}}, api.ErrForm},
		{[]part{{5, 2}}, api.ErrForm},
		{[]part{{0, -1}}, api.ErrForm},
		{[]part{{1, 1}, {16, 2}}, api.ErrForm},
		{[]part{{1, 1}, {16, 7}}, api.ErrForm},
		{[]part{{17, 2}}, api.ErrForm},
		{[]part{{17, 11}}, api.ErrForm},
		{[]part{{18, 10}}, api.ErrForm},
		{[]part{{18, 139}}, api.ErrForm},
		{[]part{{18, math.MaxInt}}, api.ErrForm},
		{[]part{{18, math.MinInt}}, api.ErrForm},
		{[]part{{16, 3}}, api.ErrForm},
		{[]part{{16, 3}, {5, 1}}, api.ErrForm},
		{[]part{{5, 1}, {16, 3}, {20, 1}}, api.ErrForm},
		{append(slices.Clone(full), part{5, 1}), api.ErrSize},
		{append(slices.Clone(full), part{17, 3}), api.ErrSize},
		{append(slices.Clone(full), part{16, 3}), api.ErrSize},
		{[]part{{18, 138}, {18, 138}, {18, 45}}, api.ErrSize},
		{[]part{{18, 138}, {18, 138}, {18, 43}, {16, 3}}, api.ErrSize},
		{append(slices.Clone(full), part{5, 2}), api.ErrForm},
		{append(slices.Clone(full), part{5, 1}, part{99, 1}), api.ErrSize},
		{append(slices.Clone(full), part{99, 1}, part{5, 1}), api.ErrForm},
	} {
		before := slices.Clone(x.p)
		if got, e := runs.Join(x.p); e != x.want || len(got) != 0 {
			t.Errorf("Join(%d): %d %d, not %d", x.p, got, e, x.want)
		}
		if !slices.Equal(x.p, before) {
			t.Errorf("changed: %d", x.p)
		}
	}
}

// 9.2

// table is the bits of a table by the chapter's words, as 0 and 1.
func table(t *testing.T, n int, lengths []int, parts []part) string {
	t.Helper()
	var s strings.Builder
	s.WriteString(sample.Number(n, 9))
	for _, length := range lengths {
		s.WriteString(sample.Number(length, 4))
	}
	c, e := canon.New(lengths)
	if e != api.OK {
		t.Fatalf("lengths %d: %d", lengths, e)
	}
	for _, p := range parts {
		var w bits.Writer
		c.Put(&w, p.Number)
		s.WriteString(sample.Written(&w))
		switch p.Number {
		case 16:
			s.WriteString(sample.Number(p.Many-3, 2))
		case 17:
			s.WriteString(sample.Number(p.Many-3, 3))
		case 18:
			s.WriteString(sample.Number(p.Many-11, 7))
		}
	}
	return s.String()
}

func best(t *testing.T, parts []part) []int {
	t.Helper()
	often := make([]int, 19)
	for _, p := range parts {
		often[p.Number]++
	}
	l, e := weigh.Lengths(often)
	if e != api.OK {
		t.Fatal(e)
	}
	return l
}

func wantTake(t *testing.T, what, bits string, want []int, e api.Errno) {
	t.Helper()
	if got, ge := runs.Take(sample.Bits(bits)); !slices.Equal(got, want) || ge != e {
		t.Errorf("%s: Take: %d %d, not %d %d", what, got, ge, want, e)
	}
}

func TestPutByHand(t *testing.T) {
	var w bits.Writer
	w.Put(1, 2)
	if e := runs.Put(&w, []int{5, 5, 5, 5}); e != api.OK {
		t.Fatal(e)
	}
	// 4 lengths; of 5 and 16 a code of one bit; 5; 16, three times
	want := "10" + "001000000" + strings.Repeat("0000", 5) + "1000" + strings.Repeat("0000", 10) + "1000" + "0000" + "0000" + "0" + "1" + "00"
	if got := sample.Written(&w); got != want {
		t.Errorf("%s, not %s", got, want)
	}
	wantTake(t, "by hand", want[2:], []int{5, 5, 5, 5}, api.OK)
}

func TestPutOfOneNumber(t *testing.T) {
	for _, x := range []struct {
		l    []int
		want string
	}{
		{[]int{7}, sample.Number(1, 9) + strings.Repeat("0000", 7) + "1000" + strings.Repeat("0000", 11) + "0"},
		{repeated(0, 138), sample.Number(138, 9) + strings.Repeat("0000", 18) + "1000" + "0" + "1111111"},
		{repeated(0, 11), sample.Number(11, 9) + strings.Repeat("0000", 18) + "1000" + "0" + "0000000"},
		{repeated(0, 10), sample.Number(10, 9) + strings.Repeat("0000", 17) + "1000" + "0000" + "0" + "111"},
	} {
		var w bits.Writer
		if e := runs.Put(&w, x.l); e != api.OK || sample.Written(&w) != x.want {
			t.Errorf("Put(%d): %d, %s, not %s", x.l, e, sample.Written(&w), x.want)
		}
	}
}

func TestPutRefused(t *testing.T) {
	for _, x := range []struct {
		what string
		l    []int
		want api.Errno
	}{
		{"none", nil, api.ErrSize},
		{"321", repeated(3, 321), api.ErrSize},
		{"321 that may not be", repeated(16, 321), api.ErrSize},
		{"one of 16", []int{1, 16}, api.ErrArg},
		{"one below 0", []int{-1, 1}, api.ErrArg},
		{"the least number", []int{math.MinInt}, api.ErrArg},
		{"the greatest number", []int{math.MaxInt}, api.ErrArg},
		{"320, of which one may not be", append(repeated(1, 319), 16), api.ErrArg},
	} {
		var w bits.Writer
		w.Put(5, 3)
		if e := runs.Put(&w, x.l); e != x.want || w.Len() != 3 {
			t.Errorf("%s: %d, %d bits, not %d", x.what, e, w.Len(), x.want)
		}
		if e := runs.Put(nil, x.l); e != x.want {
			t.Errorf("%s, of a nil writer: %d, not %d", x.what, e, x.want)
		}
	}
	if e := runs.Put(nil, []int{1, 1}); e != api.ErrArg {
		t.Errorf("of a nil writer: %d", e)
	}
}

func TestPutLeavesLengths(t *testing.T) {
	l := []int{3, 0, 0, 0, 3, 3, 3, 3}
	var w bits.Writer
	runs.Put(&w, l)
	if !slices.Equal(l, []int{3, 0, 0, 0, 3, 3, 3, 3}) {
		t.Errorf("changed: %d", l)
	}
}

func TestTakeNil(t *testing.T) {
	if l, e := runs.Take(nil); len(l) != 0 || e != api.ErrArg {
		t.Errorf("%d %d", l, e)
	}
}

// What is taken may be parted otherwise than Put does.
func TestTakeOtherParts(t *testing.T) {
	for _, p := range [][]part{
		{{0, 1}, {16, 3}},
		{{0, 1}, {0, 1}, {0, 1}, {0, 1}, {0, 1}},
		{{17, 3}, {17, 4}, {18, 12}, {16, 3}, {5, 1}, {5, 1}, {5, 1}, {5, 1}},
		{{1, 1}, {16, 3}, {16, 4}, {16, 5}, {16, 6}},
		{{18, 11}, {18, 138}, {17, 10}, {18, 138}, {17, 10}, {16, 6}, {17, 7}},
	} {
		l, e := runs.Join(p)
		if e != api.OK {
			t.Fatal(e)
		}
		wantTake(t, "other parts", table(t, len(l), best(t, p), p), l, api.OK)
		wantTake(t, "other parts, of another code", table(t, len(l), append(repeated(4, 13), repeated(5, 6)...), p), l, api.OK)
	}
}

func TestTakeGoesOn(t *testing.T) {
	l := []int{2, 2, 0, 0, 0, 0, 3, 3}
	s := table(t, len(l), best(t, runs.Parts(l)), runs.Parts(l))
	r := sample.Bits(s + "101")
	if got, e := runs.Take(r); e != api.OK || !slices.Equal(got, l) || r.Left() != 3 {
		t.Errorf("%d %d, %d left", got, e, r.Left())
	}
}

func TestTakeTooShort(t *testing.T) {
	l := append(append(repeated(0, 30), 3, 4, 4, 4, 4, 4, 2), repeated(0, 5)...)
	s := table(t, len(l), best(t, runs.Parts(l)), runs.Parts(l))
	wantTake(t, "all", s, l, api.OK)
	for n := range len(s) {
		wantTake(t, "too short", s[:n], nil, api.ErrEnd)
	}
}

func TestTakeSizes(t *testing.T) {
	lengths := append(repeated(0, 17), 1, 1)
	behind := strings.Repeat("0000", 17) + "1000" + "1000"
	for _, n := range []int{0, 321, 322, 400, 511} {
		wantTake(t, "a wrong size", sample.Number(n, 9), nil, api.ErrSize)
		wantTake(t, "a wrong size, and more", sample.Number(n, 9)+behind+"0", nil, api.ErrSize)
	}
	for n := range 9 {
		wantTake(t, "a size that isn't all there", sample.Number(511, n), nil, api.ErrEnd)
	}
	wantTake(t, "320", table(t, 320, lengths, []part{{18, 138}, {18, 138}, {18, 44}}), repeated(0, 320), api.OK)
	wantTake(t, "1", sample.Number(1, 9)+"1000"+strings.Repeat("0000", 18)+"0", []int{0}, api.OK)
}

func TestTakeCodes(t *testing.T) {
	size := sample.Number(4, 9)
	for _, x := range []struct {
		what    string
		lengths []int
		behind  string
		want    api.Errno
	}{
		{"no code at all", repeated(0, 19), "", api.ErrCodes},
		{"one of length 2", append([]int{2}, repeated(0, 18)...), "0000", api.ErrCodes},
		{"too few", append([]int{1, 2}, repeated(0, 17)...), "0000", api.ErrCodes},
		{"too many", append([]int{1, 1, 1}, repeated(0, 16)...), "0000", api.ErrCodes},
		{"all 15", repeated(15, 19), "0000", api.ErrCodes},
		{"no code comes", append([]int{1}, repeated(0, 18)...), "1", api.ErrCodes},
		{"no code comes behind one", append([]int{1}, repeated(0, 18)...), "001", api.ErrCodes},
		{"one code, too short", append([]int{1}, repeated(0, 18)...), "000", api.ErrEnd},
	} {
		s := size
		for i, n := range x.lengths {
			wantTake(t, x.what+", lengths that aren't all there", s+"000", nil, api.ErrEnd)
			if i > 0 {
				wantTake(t, x.what+", lengths that aren't all there", s, nil, api.ErrEnd)
			}
			s += sample.Number(n, 4)
		}
		wantTake(t, x.what, s+x.behind, nil, x.want)
	}
}

func TestTakeForm(t *testing.T) {
	lengths := []int{0, 0, 0, 3, 0, 0, 0, 0, 0, 0, 0, 0, 0, 0, 0, 3, 2, 2, 2}
	for _, x := range []struct {
		what string
		n    int
		p    []part
	}{
		{"16 first", 3, []part{{16, 3}}},
		{"16 first, of too many", 2, []part{{16, 6}}},
		{"16 one more", 3, []part{{3, 1}, {16, 3}}},
		{"16 four more", 3, []part{{3, 1}, {16, 6}}},
		{"17 one more", 2, []part{{17, 3}}},
		{"17 one more behind one", 3, []part{{15, 1}, {17, 3}}},
		{"18 one more", 10, []part{{18, 11}}},
		{"18 many more", 1, []part{{18, 138}}},
		{"18 one more than 320", 320, []part{{18, 138}, {18, 138}, {18, 45}}},
	} {
		s := table(t, x.n, lengths, x.p)
		wantTake(t, x.what, s, nil, api.ErrForm)
		wantTake(t, x.what+", and more", s+"00110101", nil, api.ErrForm)
		wantTake(t, x.what+", of which a bit lacks", s[:len(s)-1], nil, api.ErrEnd)
		wantTake(t, x.what+", of which two bits lack", s[:len(s)-2], nil, api.ErrEnd)
	}
	wantTake(t, "no bits of what isn't needed any more", table(t, 4, lengths, []part{{3, 1}, {16, 3}}), []int{3, 3, 3, 3}, api.OK)
}

// 9.3

// some is lengths with many that are alike, one behind the other.
func some(throw func(int) int, n int) []int {
	var l []int
	for len(l) < n {
		length := throw(16) * throw(2)
		l = append(l, repeated(length, 1+throw(1+throw(1+throw(150))))...)
	}
	return l[:n]
}

// slowParts is the parts by the chapter's words.
func slowParts(l []int) []part {
	var p []part
	for at := 0; at < len(l); {
		noughts, alike := 0, 0
		for at+noughts < len(l) && l[at+noughts] == 0 {
			noughts++
		}
		for at > 0 && at+alike < len(l) && l[at+alike] == l[at-1] {
			alike++
		}
		switch {
		case noughts >= 11:
			p = append(p, part{18, min(noughts, 138)})
		case noughts >= 3:
			p = append(p, part{17, noughts})
		case alike >= 3:
			p = append(p, part{16, min(alike, 6)})
		default:
			p = append(p, part{l[at], 1})
		}
		at += p[len(p)-1].Many
	}
	return p
}

func TestByTheWords(t *testing.T) {
	throw := sample.Dice(1)
	for n := 1; n <= 320; n++ {
		l := some(throw, n)
		p := slowParts(l)
		if got := runs.Parts(l); !slices.Equal(got, p) {
			t.Fatalf("Parts(%d): %d, not %d", l, got, p)
		}
		if got, e := runs.Join(p); e != api.OK || !slices.Equal(got, l) {
			t.Fatalf("Join(%d): %d %d, not %d", p, got, e, l)
		}
		want := table(t, n, best(t, p), p)
		var w bits.Writer
		if e := runs.Put(&w, l); e != api.OK || sample.Written(&w) != want {
			t.Fatalf("Put(%d): %d, %s, not %s", l, e, sample.Written(&w), want)
		}
		r := bits.New(w.Bytes())
		if got, e := runs.Take(r); e != api.OK || !slices.Equal(got, l) || r.At() != w.Len() {
			t.Fatalf("Take: %d %d at %d, not %d at %d", got, e, r.At(), l, w.Len())
		}
	}
}

// Whatever the bits are, what is taken are lengths that could be put, or there is an error.
func TestTakeOfAnything(t *testing.T) {
	throw := sample.Dice(2)
	for range 2000 {
		l := some(throw, 1+throw(320))
		p := slowParts(l)
		b := []byte(table(t, len(l), best(t, p), p))
		for range 1 + throw(3) {
			b[throw(len(b))] ^= 1
		}
		got, e := runs.Take(sample.Bits(string(b[:len(b)-throw(2)*throw(len(b))])))
		if e == api.OK && (len(got) == 0 || len(got) > 320 || len(runs.Parts(got)) == 0) || e != api.OK && len(got) != 0 {
			t.Fatalf("%s: %d %d", b, got, e)
		}
	}
}
