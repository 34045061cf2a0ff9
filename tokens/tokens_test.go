package tokens_test

import (
	"bytes"
	"iter"
	"math"
	"slices"
	"testing"

	"bindle/api"
	"bindle/match"
	"bindle/sample"
	"bindle/tokens"
)

type token = api.Token

const window = 32768

func wantSplit(t *testing.T, text string, level int, want ...token) {
	t.Helper()
	if got := tokens.Split([]byte(text), level); !slices.Equal(got, want) {
		t.Errorf("Split(%.40q, %d): %v, not %v", text, level, got, want)
	}
	if got := slices.Collect(tokens.Each([]byte(text), level)); !slices.Equal(got, want) {
		t.Errorf("Each(%.40q, %d): %v, not %v", text, level, got, want)
	}
}

// 11.1

func TestExample(t *testing.T) {
	for level := -1; level <= 4; level++ {
		wantSplit(t, "aaaa", level, token{Byte: 'a'}, token{Len: 3, Dist: 1})
	}
}

func TestRight(t *testing.T) {
	for _, x := range []struct {
		t    token
		want bool
	}{
		{token{}, true},
		{token{Byte: 255}, true},
		{token{Len: 3, Dist: 1}, true},
		{token{Len: 258, Dist: 1}, true},
		{token{Len: 258, Dist: window}, true},
		{token{Len: 3, Dist: window}, true},
		{token{Len: 2, Dist: 1}, false},
		{token{Len: 1, Dist: 1}, false},
		{token{Len: 259, Dist: 1}, false},
		{token{Len: 3}, false},
		{token{Len: 3, Dist: -1}, false},
		{token{Len: 3, Dist: window + 1}, false},
		{token{Dist: 1}, false},
		{token{Dist: -1}, false},
		{token{Byte: 1, Dist: 1}, false},
		{token{Byte: 1, Len: 3, Dist: 1}, false},
		{token{Byte: 1, Len: 3}, false},
		{token{Len: -1}, false},
		{token{Len: -3, Dist: 1}, false},
		{token{Len: math.MinInt, Dist: math.MinInt}, false},
		{token{Len: math.MaxInt, Dist: math.MaxInt}, false},
	} {
		if tokens.Right(x.t) != x.want {
			t.Errorf("Right(%v): %t", x.t, !x.want)
		}
	}
}

func TestDepth(t *testing.T) {
	for _, x := range []struct{ level, want int }{{math.MinInt, 1}, {-1, 1}, {0, 1}, {1, 4}, {2, 32}, {3, 256}, {4, 256}, {math.MaxInt, 256}} {
		if d := tokens.Depth(x.level); d != x.want {
			t.Errorf("Depth(%d): %d, not %d", x.level, d, x.want)
		}
	}
}

func TestSplitOfFew(t *testing.T) {
	for level := range 4 {
		wantSplit(t, "", level)
		wantSplit(t, "a", level, sample.Tokens("a")...)
		wantSplit(t, "abcd", level, sample.Tokens("abcd")...)
		wantSplit(t, "aaa", level, sample.Tokens("aaa")...)
		wantSplit(t, "abcabc", level, append(sample.Tokens("abc"), token{Len: 3, Dist: 3})...)
		wantSplit(t, "abcabcab", level, append(sample.Tokens("abc"), token{Len: 5, Dist: 3})...)
		wantSplit(t, "abcdabcab", level, append(append(sample.Tokens("abcd"), token{Len: 3, Dist: 4}), sample.Tokens("ab")...)...)
	}
	if l := tokens.Split(nil, 1); len(l) != 0 {
		t.Errorf("of none: %v", l)
	}
}

// A longer match at the next place counts from level 2 on.
func TestSplitLazy(t *testing.T) {
	text := "abc.bcde.abcde"
	early := append(sample.Tokens("abc.bcde."), token{Len: 3, Dist: 9}, token{Byte: 'd'}, token{Byte: 'e'})
	late := append(sample.Tokens("abc.bcde.a"), token{Len: 4, Dist: 6})
	wantSplit(t, text, math.MinInt, early...)
	wantSplit(t, text, 0, early...)
	wantSplit(t, text, 1, early...)
	wantSplit(t, text, 2, late...)
	wantSplit(t, text, 3, late...)
	wantSplit(t, text, math.MaxInt, late...)
}

// One that is just as long at the next place doesn't count.
func TestSplitLazyAsLong(t *testing.T) {
	text := "abc.bcd.abcd"
	want := append(sample.Tokens("abc.bcd."), token{Len: 3, Dist: 8}, token{Byte: 'd'})
	for level := range 4 {
		wantSplit(t, text, level, want...)
	}
}

// What is longer is asked for again: place by place it may grow.
func TestSplitLazyAgain(t *testing.T) {
	text := "abc.bcde.cdefg.abcdefg"
	head := append(sample.Tokens("abc.bcde."), token{Len: 3, Dist: 4})
	head = append(head, sample.Tokens("fg.")...)
	wantSplit(t, text, 1, append(slices.Clone(head), token{Len: 3, Dist: 15}, token{Len: 4, Dist: 8})...)
	wantSplit(t, text, 2, append(slices.Clone(head), token{Byte: 'a'}, token{Byte: 'b'}, token{Len: 5, Dist: 8})...)
}

// The last abcde has candidates of 3 bytes that are nearer than the one of 5.
func TestSplitDepth(t *testing.T) {
	text := "abcde.abc1abc2abc3"
	head := append(sample.Tokens("abcde."), token{Len: 3, Dist: 6}, token{Byte: '1'}, token{Len: 3, Dist: 4}, token{Byte: '2'}, token{Len: 3, Dist: 4}, token{Byte: '3'})
	short := append(slices.Clone(head), token{Len: 3, Dist: 4}, token{Byte: 'd'}, token{Byte: 'e'})
	fourth := append(slices.Clone(head), token{Len: 5, Dist: 18})
	wantSplit(t, text+"abcde", 0, short...)
	wantSplit(t, text+"abcde", 1, fourth...)
	more := []token{{Len: 3, Dist: 4}, {Byte: '4'}}
	short = slices.Insert(short, len(head), more...)
	fifth := slices.Concat(head, more, []token{{Len: 5, Dist: 22}})
	wantSplit(t, text+"abc4abcde", 0, short...)
	wantSplit(t, text+"abc4abcde", 1, short...)
	wantSplit(t, text+"abc4abcde", 2, fifth...)
	wantSplit(t, text+"abc4abcde", 3, fifth...)
}

func TestSplitOfLongest(t *testing.T) {
	for level := range 4 {
		wantSplit(t, string(make([]byte, 259)), level, token{}, token{Len: 258, Dist: 1})
		wantSplit(t, string(make([]byte, 260)), level, token{}, token{Len: 258, Dist: 1}, token{})
		wantSplit(t, string(make([]byte, 1+258+258+2)), level, token{}, token{Len: 258, Dist: 1}, token{Len: 258, Dist: 1}, token{}, token{})
		wantSplit(t, string(make([]byte, 1+258+258+3)), level, token{}, token{Len: 258, Dist: 1}, token{Len: 258, Dist: 1}, token{Len: 3, Dist: 1})
	}
}

// Each ends where it is told to, begins anew each time, and tells what b was when it was called.
func TestEach(t *testing.T) {
	b := []byte("abcabcd")
	want := append(sample.Tokens("abc"), token{Len: 3, Dist: 3}, token{Byte: 'd'})
	all := tokens.Each(b, 2)
	copy(b, "xyz")
	for n := 1; n <= len(want); n++ {
		var got []token
		for x := range all {
			got = append(got, x)
			copy(b, "zzzzzzz")
			if len(got) == n {
				break
			}
		}
		if !slices.Equal(got, want[:n]) {
			t.Errorf("%v, not %v", got, want[:n])
		}
	}
}

func TestEachPulled(t *testing.T) {
	next, stop := iter.Pull(tokens.Each([]byte("aaaaab"), 0))
	defer stop()
	for _, want := range []token{{Byte: 'a'}, {Len: 4, Dist: 1}, {Byte: 'b'}} {
		if got, ok := next(); got != want || !ok {
			t.Errorf("%v %t, not %v", got, ok, want)
		}
	}
	if got, ok := next(); ok {
		t.Errorf("%v behind the end", got)
	}
}

func TestSplitLeavesBytes(t *testing.T) {
	b := []byte("abcabcabcd")
	tokens.Split(b, 3)
	for range tokens.Each(b, 3) {
	}
	if string(b) != "abcabcabcd" {
		t.Errorf("changed: %q", b)
	}
}

// 11.2

func TestExpand(t *testing.T) {
	for _, x := range []struct {
		l    []token
		want string
	}{
		{nil, ""},
		{sample.Tokens("abc\x00"), "abc\x00"},
		{[]token{{Byte: 'a'}, {Len: 3, Dist: 1}}, "aaaa"},
		{[]token{{Byte: 'a'}, {Byte: 'b'}, {Len: 5, Dist: 2}, {Byte: 'c'}}, "abababac"},
		{[]token{{Byte: 'a'}, {Byte: 'b'}, {Byte: 'c'}, {Len: 3, Dist: 3}, {Len: 3, Dist: 5}}, "abcabcbca"},
	} {
		n := len(x.want)
		for _, most := range []int{n, n + 1, 1000, math.MaxInt} {
			if b, e := tokens.Expand(x.l, most); string(b) != x.want || e != api.OK {
				t.Errorf("Expand(%v, %d): %q %d, not %q", x.l, most, b, e, x.want)
			}
		}
		for _, most := range []int{n - 1, 0, -1, math.MinInt} {
			if b, e := tokens.Expand(x.l, most); len(b) != 0 || n > 0 && e != api.ErrSize || n == 0 && e != api.OK {
				t.Errorf("Expand(%v, %d): %q %d", x.l, most, b, e)
			}
		}
	}
}

func TestExpandRefused(t *testing.T) {
	a := token{Byte: 'a'}
	for _, x := range []struct {
		l    []token
		most int
		want api.Errno
	}{
		{[]token{{Len: 3, Dist: 1}}, 9, api.ErrForm},
		{[]token{a, {Len: 3, Dist: 2}}, 9, api.ErrForm},
		{[]token{a, a, {Len: 3, Dist: 3}}, 9, api.ErrForm},
		{[]token{a, {Len: 2, Dist: 1}}, 9, api.ErrForm},
		{[]token{a, {Len: 259, Dist: 1}}, 900, api.ErrForm},
		{[]token{a, {Dist: 1}}, 9, api.ErrForm},
		{[]token{a, {Len: 3}}, 9, api.ErrForm},
		{[]token{a, {Len: 3, Dist: -1}}, 9, api.ErrForm},
		{[]token{a, {Byte: 1, Len: 3, Dist: 1}}, 9, api.ErrForm},
		{[]token{a, {Len: 3, Dist: 1}}, 3, api.ErrSize},
		{[]token{a, {Len: 3, Dist: 1}, {Len: 2}}, 3, api.ErrSize},
		{[]token{a, {Len: 3, Dist: 2}}, 3, api.ErrForm},
		{[]token{a, {Len: 3, Dist: 1}, a}, 4, api.ErrSize},
		{[]token{a, {Len: 3, Dist: 1}, {Len: 2}}, 4, api.ErrForm},
		{[]token{a}, 0, api.ErrSize},
		{[]token{{Len: 3, Dist: 1}}, 0, api.ErrForm},
		{[]token{{Len: 3, Dist: 1}}, math.MinInt, api.ErrForm},
	} {
		if b, e := tokens.Expand(x.l, x.most); len(b) != 0 || e != x.want {
			t.Errorf("Expand(%v, %d): %q %d, not %d", x.l, x.most, b, e, x.want)
		}
	}
}

// The distance may be as great as the window, and reach the first byte.
func TestExpandFar(t *testing.T) {
	l := slices.Repeat([]token{{Byte: 'z'}}, window)
	l[0], l[1], l[2] = token{Byte: 'a'}, token{Byte: 'b'}, token{Byte: 'c'}
	b, e := tokens.Expand(append(l, token{Len: 4, Dist: window}), window+4)
	if e != api.OK || len(b) != window+4 || string(b[window:]) != "abcz" {
		t.Errorf("%d, %d bytes", e, len(b))
	}
	if b, e := tokens.Expand(append(l[1:], token{Len: 4, Dist: window}), window+4); e != api.ErrForm || len(b) != 0 {
		t.Errorf("a byte too far: %d, %d bytes", e, len(b))
	}
}

func TestSize(t *testing.T) {
	a := token{Byte: 'a'}
	whole := slices.Repeat([]token{{Len: 258, Dist: 9}}, 4064)
	full := append(slices.Clone(whole), slices.Repeat([]token{a}, 64)...)
	for _, x := range []struct {
		what string
		l    []token
		n    int
		ok   bool
	}{
		{"none", nil, 0, true},
		{"bytes", sample.Tokens("abc"), 3, true},
		{"a match", []token{a, {Len: 7, Dist: 1}, a}, 9, true},
		{"a match without bytes ahead", []token{{Len: 3, Dist: window}}, 3, true},
		{"as many as there may be", full, 1048576, true},
		{"one more", append(slices.Clone(full), a), 0, false},
		{"a match that is one more", append(slices.Clone(whole), append(slices.Repeat([]token{a}, 62), token{Len: 3, Dist: 1})...), 0, false},
		{"a match that goes just there", append(slices.Clone(whole), append(slices.Repeat([]token{a}, 61), token{Len: 3, Dist: 1})...), 1048576, true},
		{"many more", slices.Concat(full, full), 0, false},
		{"none of them, the first one", []token{{Len: 2, Dist: 1}, a}, 0, false},
		{"none of them, the last one", []token{a, {Dist: 1}}, 0, false},
		{"a great number", []token{{Len: math.MaxInt, Dist: 1}}, 0, false},
	} {
		if n, ok := tokens.Size(x.l); n != x.n || ok != x.ok {
			t.Errorf("%s: %d %t, not %d %t", x.what, n, ok, x.n, x.ok)
		}
	}
}

// 11.3

// slow is the tokens by the chapter's words.
func slow(b []byte, level int) []token {
	level = min(max(level, 0), 3)
	depth := []int{1, 4, 32, 256}[level]
	var l []token
	for at := 0; at < len(b); {
		n, d := match.Best(b, at, depth)
		next, _ := match.Best(b, at+1, depth)
		if n == 0 || level >= 2 && n < 258 && next > n {
			l = append(l, token{Byte: b[at]})
			at++
			continue
		}
		l = append(l, token{Len: n, Dist: d})
		at += n
	}
	return l
}

// some is bytes of which many stood there already.
func some(throw func(int) int, n int) []byte {
	var b []byte
	kinds := 1 + throw(1+throw(26))
	for len(b) < n {
		from := throw(len(b) + 1)
		b = append(b, b[from:min(len(b), from+throw(1+throw(20)))]...)
		for range throw(4) {
			b = append(b, byte('a'+throw(kinds)))
		}
	}
	return b[:n]
}

func TestByTheWords(t *testing.T) {
	throw := sample.Dice(1)
	for round := range 200 {
		b := some(throw, throw(600))
		if round%20 == 0 {
			b = bytes.Repeat(b, 4)
		}
		for level := range 4 {
			want := slow(b, level)
			if got := tokens.Split(b, level); !slices.Equal(got, want) {
				t.Fatalf("Split(%q, %d): %v, not %v", b, level, got, want)
			}
			if got := slices.Collect(tokens.Each(b, level)); !slices.Equal(got, want) {
				t.Fatalf("Each(%q, %d): %v, not %v", b, level, got, want)
			}
			if n, ok := tokens.Size(want); n != len(b) || !ok {
				t.Fatalf("Size of %q at %d: %d %t", b, level, n, ok)
			}
			if got, e := tokens.Expand(want, len(b)); !bytes.Equal(got, b) || e != api.OK {
				t.Fatalf("Expand of %q at %d: %q %d", b, level, got, e)
			}
		}
	}
}

func TestWhole(t *testing.T) {
	throw := sample.Dice(2)
	b := some(throw, 65536)
	for level := range 4 {
		l := tokens.Split(b, level)
		if got, e := tokens.Expand(l, len(b)); !bytes.Equal(got, b) || e != api.OK {
			t.Errorf("level %d: %d bytes, %d", level, len(got), e)
		}
	}
}
