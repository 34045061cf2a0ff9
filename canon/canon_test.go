package canon_test

import (
	"math"
	"slices"
	"strings"
	"testing"

	"bindle/api"
	"bindle/bits"
	"bindle/canon"
	"bindle/sample"
	"bindle/weigh"
)

func repeated(n, times int) []int {
	return slices.Repeat([]int{n}, times)
}

func made(t *testing.T, l []int) *canon.Code {
	t.Helper()
	c, e := canon.New(l)
	if c == nil || e != api.OK {
		t.Fatalf("New(%d): %v %d", l, c, e)
	}
	return c
}

func wantTake(t *testing.T, what string, c *canon.Code, r *bits.Reader, symbol int, e api.Errno, goesOn int) {
	t.Helper()
	at := r.At()
	if s, got := c.Take(r); s != symbol || got != e || r.At() != at+goesOn {
		t.Errorf("%s: Take: %d %d, and goes on by %d, not %d %d, and by %d", what, s, got, r.At()-at, symbol, e, goesOn)
	}
}

// deep is lengths up to 15.
func deep() []int {
	return []int{15, 1, 2, 3, 4, 5, 6, 7, 8, 9, 10, 11, 12, 13, 14, 15}
}

// 8.1

func TestExample(t *testing.T) {
	l := []int{2, 1, 2}
	v, e := canon.Values(l)
	if e != api.OK || !slices.Equal(v, []int{2, 0, 3}) {
		t.Errorf("%d %d", v, e)
	}
	var w bits.Writer
	c := made(t, l)
	for s, want := range []string{"10", "0", "11"} {
		at := w.Len()
		if !c.Put(&w, s) || sample.Written(&w)[at:] != want {
			t.Errorf("Put of %d: %s, not %s", s, sample.Written(&w)[at:], want)
		}
	}
	r := bits.New(w.Bytes())
	for s, n := range l {
		wantTake(t, "the example", c, r, s, api.OK, n)
	}
}

func TestRight(t *testing.T) {
	for _, x := range []struct {
		what string
		l    []int
		want bool
	}{
		{"none", nil, false},
		{"of length 0 alone", []int{0}, false},
		{"320 of length 0", repeated(0, 320), false},
		{"one alone", []int{1}, true},
		{"one alone, of length 2", []int{2}, false},
		{"one alone, of length 15", []int{0, 15}, false},
		{"one alone, of length 16", []int{0, 16}, false},
		{"one alone, below 0", []int{-1}, false},
		{"one alone, and others without", []int{0, 0, 1, 0}, true},
		{"one alone, the first one of 320", append([]int{1}, repeated(0, 319)...), true},
		{"one alone, the last one of 320", append(repeated(0, 319), 1), true},
		{"one alone, the last one of 321", append(repeated(0, 320), 1), false},
		{"one alone, and one below 0", []int{1, -1}, false},
		{"one alone, and one below 0, and another one", []int{1, -1, 1}, false},
		{"two of 1", []int{1, 1}, true},
		{"two of 1 among 320", append([]int{1, 1}, repeated(0, 318)...), true},
		{"two of 1 among 321", append([]int{1, 1}, repeated(0, 319)...), false},
		{"three of 1", []int{1, 1, 1}, false},
		{"1 and 2", []int{1, 2}, false},
		{"1, 2 and 2", []int{1, 2, 2}, true},
		{"too many", []int{1, 2, 2, 15}, false},
		{"up to 15", deep(), true},
		{"up to 16", append(deep()[1:15], 15, 16, 16), false},
		{"256 of 8", repeated(8, 256), true},
		{"255 of 8", repeated(8, 255), false},
		{"great numbers", []int{1, math.MaxInt, 1}, false},
		{"small numbers", []int{1, math.MinInt, 1}, false},
	} {
		if got := canon.Right(x.l); got != x.want {
			t.Errorf("%s: Right: %t", x.what, got)
		}
		e := api.ErrCodes
		if x.want {
			e = api.OK
		}
		if v, got := canon.Values(x.l); got != e || x.want && len(v) != len(x.l) || !x.want && len(v) != 0 {
			t.Errorf("%s: Values: %d %d", x.what, v, got)
		}
		if c, got := canon.New(x.l); got != e || (c != nil) != x.want {
			t.Errorf("%s: New: %v %d", x.what, c, got)
		}
	}
}

func TestValues(t *testing.T) {
	for _, x := range []struct{ l, want []int }{
		{[]int{1}, []int{0}},
		{[]int{0, 0, 1, 0}, []int{0, 0, 0, 0}},
		{[]int{1, 0, 1}, []int{0, 0, 1}},
		{[]int{2, 2, 2, 2}, []int{0, 1, 2, 3}},
		{[]int{3, 3, 3, 3, 3, 2, 4, 4}, []int{2, 3, 4, 5, 6, 0, 14, 15}},
		{[]int{1, 3, 0, 3, 2}, []int{0, 6, 0, 7, 2}},
		{[]int{}, nil},
		{[]int{4, 1, 4, 4, 4}, nil},
		{[]int{3, 1, 3, 3, 3}, []int{4, 0, 5, 6, 7}},
		{deep(), []int{32766, 0, 2, 6, 14, 30, 62, 126, 254, 510, 1022, 2046, 4094, 8190, 16382, 32767}},
	} {
		e := api.OK
		if x.want == nil {
			e = api.ErrCodes
		}
		if v, got := canon.Values(x.l); got != e || !slices.Equal(v, x.want) {
			t.Errorf("Values(%d): %d %d, not %d", x.l, v, got, x.want)
		}
	}
}

func TestLenAndSymbols(t *testing.T) {
	c := made(t, []int{0, 3, 1, 0, 3, 2})
	for s, n := range []int{0, 3, 1, 0, 3, 2, 0, 0} {
		if c.Len(s) != n {
			t.Errorf("Len(%d): %d, not %d", s, c.Len(s), n)
		}
	}
	for _, s := range []int{-1, 320, 1 << 40, math.MaxInt, math.MinInt} {
		if c.Len(s) != 0 {
			t.Errorf("Len(%d): %d", s, c.Len(s))
		}
	}
	if c.Symbols() != 4 {
		t.Errorf("%d symbols", c.Symbols())
	}
	if n := made(t, repeated(8, 256)).Symbols(); n != 256 {
		t.Errorf("%d symbols of 256", n)
	}
	if n := made(t, []int{0, 1, 0}).Symbols(); n != 1 {
		t.Errorf("%d symbols of one", n)
	}
}

// A code is its own: it neither keeps the lengths nor changes them.
func TestNewKeepsNothing(t *testing.T) {
	l := []int{2, 1, 2}
	c := made(t, l)
	v, _ := canon.Values(l)
	v[0] = 9
	if !slices.Equal(l, []int{2, 1, 2}) {
		t.Errorf("changed: %d", l)
	}
	l[0], l[1] = 0, 0
	if c.Len(0) != 2 || c.Len(1) != 1 || c.Symbols() != 3 {
		t.Error("the lengths are kept")
	}
	wantTake(t, "behind a change", c, sample.Bits("10"), 0, api.OK, 2)
	if v, _ := canon.Values([]int{2, 1, 2}); v[0] != 2 {
		t.Error("the answer isn't new memory")
	}
}

// 8.2

func TestPutNone(t *testing.T) {
	c := made(t, []int{2, 0, 1, 2})
	var w bits.Writer
	for _, s := range []int{1, -1, 4, 320, math.MinInt, math.MaxInt} {
		if c.Put(&w, s) || w.Len() != 0 {
			t.Errorf("Put of %d: %d bits", s, w.Len())
		}
	}
}

// Behind a nil writer nothing can be written: what is told is whether the symbol has a code.
func TestPutNilWriter(t *testing.T) {
	c := made(t, []int{1, 0})
	if !c.Put(nil, 0) || c.Put(nil, 1) || c.Put(nil, -1) {
		t.Error("a nil writer")
	}
}

func TestPutDeep(t *testing.T) {
	c := made(t, deep())
	for s, want := range []string{"111111111111110", "0", "10", "110", "1110", "11110", "111110", "1111110", "11111110", "111111110", "1111111110", "11111111110", "111111111110", "1111111111110", "11111111111110", "111111111111111"} {
		var w bits.Writer
		w.Put(1, 3)
		if !c.Put(&w, s) || sample.Written(&w) != "100"+want {
			t.Errorf("Put of %d: %s, not 100%s", s, sample.Written(&w), want)
		}
		wantTake(t, want, c, sample.Bits(want), s, api.OK, len(want))
		wantTake(t, want+"01", c, sample.Bits(want+"01"), s, api.OK, len(want))
		wantTake(t, "too little of "+want, c, sample.Bits(want[:len(want)-1]), 0, api.ErrEnd, 0)
	}
}

func TestTakeAlone(t *testing.T) {
	c := made(t, []int{0, 0, 1})
	wantTake(t, "0", c, sample.Bits("0"), 2, api.OK, 1)
	wantTake(t, "00", c, sample.Bits("00"), 2, api.OK, 1)
	wantTake(t, "01", c, sample.Bits("01"), 2, api.OK, 1)
	wantTake(t, "1, which begins no code", c, sample.Bits("1"), 0, api.ErrCodes, 0)
	wantTake(t, "10, which begins no code", c, sample.Bits("10"), 0, api.ErrCodes, 0)
	wantTake(t, "no bits", c, sample.Bits(""), 0, api.ErrEnd, 0)
	wantTake(t, "no bytes", c, bits.New(nil), 0, api.ErrEnd, 0)
	var w bits.Writer
	if !c.Put(&w, 2) || w.Len() != 1 || w.Bytes()[0] != 0 {
		t.Errorf("%d bits", w.Len())
	}
}

func TestTakeAtTheEnd(t *testing.T) {
	c := made(t, []int{2, 2, 2, 3, 3})
	wantTake(t, "a whole code", c, sample.Bits("111"), 4, api.OK, 3)
	wantTake(t, "too few bits", c, sample.Bits("11"), 0, api.ErrEnd, 0)
	wantTake(t, "one bit", c, sample.Bits("1"), 0, api.ErrEnd, 0)
	wantTake(t, "one bit 0", c, sample.Bits("0"), 0, api.ErrEnd, 0)
	wantTake(t, "no bits", c, sample.Bits(""), 0, api.ErrEnd, 0)
	r := sample.Bits("00")
	wantTake(t, "the last one", c, r, 0, api.OK, 2)
	for range 2 {
		wantTake(t, "behind the last one", c, r, 0, api.ErrEnd, 0)
	}
}

func TestNil(t *testing.T) {
	var none *canon.Code
	var w bits.Writer
	if none.Put(&w, 0) || w.Len() != 0 || none.Put(nil, 0) {
		t.Error("Put of a nil code")
	}
	for _, s := range []int{-1, 0, 1} {
		if none.Len(s) != 0 {
			t.Errorf("Len(%d): %d", s, none.Len(s))
		}
	}
	if none.Symbols() != 0 {
		t.Errorf("%d symbols", none.Symbols())
	}
	wantTake(t, "a nil code", none, sample.Bits("0"), 0, api.ErrArg, 0)
	wantTake(t, "both", none, nil, 0, api.ErrArg, 0)
	wantTake(t, "a nil reader", made(t, []int{1, 1}), nil, 0, api.ErrArg, 0)
}

// 8.3

// slow is the codes of lengths by the chapter's words, as 0 and 1; a text that is empty is none.
func slow(l []int) []string {
	codes := make([]string, len(l))
	code, ahead := 0, 0
	for n := 1; n <= 15; n++ {
		for s := range l {
			if l[s] != n {
				continue
			}
			if ahead > 0 {
				code++
				for range n - ahead {
					code *= 2
				}
			}
			ahead = n
			for k := n - 1; k >= 0; k-- {
				codes[s] += string(rune('0' + code>>k&1))
			}
		}
	}
	return codes
}

// slowTake is what is taken of the bits that are there.
func slowTake(codes []string, there string) (int, api.Errno) {
	begins := there == ""
	for s, code := range codes {
		if code != "" && strings.HasPrefix(there, code) {
			return s, api.OK
		}
		begins = begins || strings.HasPrefix(code, there)
	}
	if begins {
		return 0, api.ErrEnd
	}
	return 0, api.ErrCodes
}

// wantCodes holds the code of lengths against those that the words give.
func wantCodes(t *testing.T, l []int, codes []string) *canon.Code {
	t.Helper()
	c := made(t, l)
	v, _ := canon.Values(l)
	for s, code := range codes {
		value := 0
		for _, x := range code {
			value = 2*value + int(x-'0')
		}
		if v[s] != value || c.Len(s) != len(code) {
			t.Fatalf("of %d: the code of %d is %d of %d bits, not %s", l, s, v[s], c.Len(s), code)
		}
	}
	return c
}

func TestByTheWords(t *testing.T) {
	throw := sample.Dice(3)
	for range 300 {
		l := sample.Lengths(throw)
		codes := slow(l)
		c := wantCodes(t, l, codes)
		var w bits.Writer
		var put []int
		all := ""
		for range 60 {
			s := throw(len(l))
			if c.Put(&w, s) != (codes[s] != "") {
				t.Fatalf("of %d: Put of %d", l, s)
			}
			if codes[s] != "" {
				put = append(put, s)
				all += codes[s]
			}
		}
		if sample.Written(&w) != all {
			t.Fatalf("of %d: %s, not %s", l, sample.Written(&w), all)
		}
		r := bits.New(w.Bytes())
		for _, s := range put {
			wantTake(t, "what was put", c, r, s, api.OK, len(codes[s]))
		}
	}
}

func TestTakeOfAnything(t *testing.T) {
	throw := sample.Dice(4)
	for range 400 {
		l := sample.Lengths(throw)
		codes := slow(l)
		c := made(t, l)
		b := make([]byte, throw(12))
		for i := range b {
			b[i] = byte(throw(256)) & byte(throw(256)) >> throw(2)
			if throw(3) == 0 {
				b[i] = 255
			}
		}
		r := bits.New(b)
		for {
			there := sample.Text(r)
			s, e := slowTake(codes, there)
			wantTake(t, there, c, r, s, e, len(codes[s])*btoi(e == api.OK))
			if weigh.Full(l) && e == api.ErrCodes {
				t.Fatalf("of %d: %s begins no code", l, there)
			}
			if e != api.OK {
				break
			}
		}
		if t.Failed() {
			t.Fatalf("of %d", l)
		}
	}
}

func btoi(b bool) int {
	if b {
		return 1
	}
	return 0
}

// written is the bits that a code's Put writes, as 0 and 1.
func written(c *canon.Code, s int) string {
	var w bits.Writer
	c.Put(&w, s)
	return sample.Written(&w)
}

func TestNoCodeBeginsAnother(t *testing.T) {
	throw := sample.Dice(5)
	for range 60 {
		l := sample.Lengths(throw)
		c := made(t, l)
		var all []string
		for s := range l {
			if c.Len(s) > 0 {
				all = append(all, written(c, s))
			}
		}
		slices.Sort(all)
		if len(all) != c.Symbols() {
			t.Fatalf("of %d: %d codes, not %d", l, len(all), c.Symbols())
		}
		for i := 1; i < len(all); i++ {
			if strings.HasPrefix(all[i], all[i-1]) {
				t.Fatalf("%s begins %s", all[i-1], all[i])
			}
		}
	}
}
