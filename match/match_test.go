package match_test

import (
	"bytes"
	"math"
	"slices"
	"testing"

	"bindle/match"
	"bindle/sample"
)

const (
	window  = 32768
	longest = 258
)

// few is n bytes of so many kinds.
func few(throw func(int) int, n, kinds int) []byte {
	b := make([]byte, n)
	for i := range b {
		b[i] = byte('a' + throw(kinds))
	}
	return b
}

// apart is what, so many bytes that are no letters, and what anew: the distance of both is dist.
func apart(what string, dist int) []byte {
	b := []byte(what)
	for i := 0; len(b) < dist; i++ {
		b = append(b, byte(i%3))
	}
	return append(b, what...)
}

func wantLen(t *testing.T, b []byte, at, dist, want int) {
	t.Helper()
	if n := match.Len(b, at, dist); n != want {
		t.Errorf("Len(%.20q, %d, %d): %d, not %d", b, at, dist, n, want)
	}
}

// wantBest asks Best and a finder.
func wantBest(t *testing.T, b []byte, at, depth, n, dist int) {
	t.Helper()
	if gn, gd := match.Best(b, at, depth); gn != n || gd != dist {
		t.Errorf("Best(%.20q, %d, %d): %d %d, not %d %d", b, at, depth, gn, gd, n, dist)
	}
	if gn, gd := match.New(b).Find(at, depth); gn != n || gd != dist {
		t.Errorf("Find(%.20q, %d, %d): %d %d, not %d %d", b, at, depth, gn, gd, n, dist)
	}
}

func wantChain(t *testing.T, b []byte, at int, want ...int) {
	t.Helper()
	if got := match.New(b).Chain(at); !slices.Equal(got, want) {
		t.Errorf("Chain(%.20q, %d): %d, not %d", b, at, got, want)
	}
}

// 10.1

func TestExample(t *testing.T) {
	wantBest(t, []byte("abcabc"), 3, 1, 3, 3)
}

func TestLen(t *testing.T) {
	b := []byte("abcabcabd")
	wantLen(t, b, 3, 3, 5)
	wantLen(t, b, 6, 3, 2)
	wantLen(t, b, 6, 6, 2)
	wantLen(t, b, 8, 3, 0)
	wantLen(t, b, 3, 1, 0)
	wantLen(t, b, 7, 3, 1)
	wantLen(t, b, 0, 0, 0)
	wantLen(t, b, 8, 8, 0)
	wantLen(t, []byte("aa"), 1, 1, 1)
}

func TestLenOverlaps(t *testing.T) {
	wantLen(t, []byte("aaaaaa"), 1, 1, 5)
	wantLen(t, []byte("aaaaaa"), 2, 2, 4)
	wantLen(t, []byte("abababa"), 2, 2, 5)
}

func TestLenAtMost(t *testing.T) {
	for _, x := range []struct{ n, want int }{{256, 255}, {257, 256}, {258, 257}, {259, 258}, {260, 258}, {1000, 258}} {
		wantLen(t, make([]byte, x.n), 1, 1, x.want)
	}
}

func TestLenOfNone(t *testing.T) {
	b := []byte("aaaaa")
	for _, at := range []int{-1, math.MinInt, 5, 6, math.MaxInt} {
		for _, dist := range []int{-1, 0, 1, 5, 6, window, math.MaxInt, math.MinInt} {
			wantLen(t, b, at, dist, 0)
		}
	}
	for _, dist := range []int{0, -1, math.MinInt, 3, 4, math.MaxInt} {
		wantLen(t, b, 2, dist, 0)
	}
	wantLen(t, b, 2, 2, 3)
	wantLen(t, nil, 0, 1, 0)
	far := make([]byte, window+4)
	wantLen(t, far, window, window, 4)
	wantLen(t, far, window+1, window, 3)
	wantLen(t, far, window+1, window+1, 0)
}

func TestBest(t *testing.T) {
	b := []byte("abcd-abc-abcde-abcd")
	wantBest(t, b, 5, 9, 3, 5)
	wantBest(t, b, 9, 1, 3, 4)
	wantBest(t, b, 9, 2, 4, 9)
	wantBest(t, b, 15, 1, 4, 6)
	wantBest(t, b, 15, 9, 4, 6)
	wantBest(t, b, 0, 9, 0, 0)
	wantBest(t, b, 4, 9, 0, 0)
	wantBest(t, []byte("abcxabcyabc"), 8, 5, 3, 4)
	wantBest(t, []byte("aaaaaaa"), 1, 1, 6, 1)
	wantBest(t, []byte("aaaaaaa"), 3, 5, 4, 1)
	wantBest(t, make([]byte, 1000), 500, 300, longest, 1)
	wantBest(t, make([]byte, 1000), 800, 300, 200, 1)
}

// The last two bytes begin no match: three would have to be alike.
func TestBestAtTheEnd(t *testing.T) {
	b := []byte("abcabc")
	for at, n := range []int{0, 0, 0, 3, 0, 0, 0} {
		wantBest(t, b, at, 9, n, n)
	}
	wantBest(t, []byte("aaa"), 1, 9, 0, 0)
	wantBest(t, []byte("aaaa"), 1, 9, 3, 1)
	for n := range 4 {
		for at := range 4 {
			wantBest(t, make([]byte, n), at, 9, 0, 0)
			wantChain(t, make([]byte, n), at)
		}
	}
}

func TestBestOfNone(t *testing.T) {
	b := bytes.Repeat([]byte("abc"), 4)
	for _, depth := range []int{0, -1, math.MinInt} {
		wantBest(t, b, 3, depth, 0, 0)
	}
	for _, at := range []int{-1, math.MinInt, 12, 13, math.MaxInt, math.MaxInt - 1} {
		wantBest(t, b, at, 9, 0, 0)
		wantChain(t, b, at)
	}
	wantBest(t, b, 3, math.MaxInt, 9, 3)
	wantBest(t, nil, 0, 1, 0, 0)
	wantChain(t, nil, 0)
}

func TestWindow(t *testing.T) {
	for _, x := range []struct{ dist, n int }{{window - 1, 3}, {window, 3}, {window + 1, 0}, {2 * window, 0}, {65536 + 5, 0}} {
		b := apart("xyz", x.dist)
		d := x.dist
		if x.n == 0 {
			d = 0
			wantChain(t, b, x.dist)
		} else {
			wantChain(t, b, x.dist, d)
		}
		wantBest(t, b, x.dist, 1, x.n, d)
	}
}

// Two steps within the window lead beyond it.
func TestWindowOfTwo(t *testing.T) {
	for _, x := range []struct {
		first int
		want  []int
	}{{12768, []int{20000, 32768}}, {12767, []int{20000, 32767}}, {12769, []int{20000}}, {20000, []int{20000}}} {
		b := append(apart("xyzw", x.first)[:x.first], apart("xyz", 20000)...)
		b = append(b, 'w')
		at := x.first + 20000
		wantChain(t, b, at, x.want...)
		wantBest(t, b, at, 1, 3, 20000)
		n, dist := 3, 20000
		if len(x.want) == 2 {
			n, dist = 4, x.want[1]
		}
		wantBest(t, b, at, 2, n, dist)
	}
}

// Of as long ones the least distance counts; what is farther off only if it is longer, and within the depth.
func TestDepth(t *testing.T) {
	b := []byte("abcdef.abcde.abcd.abc.abcdefg")
	at := 22
	wantChain(t, b, at, 4, 9, 15, 22)
	wantBest(t, b, at, 1, 3, 4)
	wantBest(t, b, at, 2, 4, 9)
	wantBest(t, b, at, 3, 5, 15)
	wantBest(t, b, at, 4, 6, 22)
	wantBest(t, b, at, 5, 6, 22)
	b = []byte("abcd.abcd.abc.abcd.abcde")
	wantChain(t, b, 19, 5, 9, 14, 19)
	for depth := 1; depth < 6; depth++ {
		wantBest(t, b, 19, depth, 4, 5)
	}
}

// 10.2

func TestChain(t *testing.T) {
	wantChain(t, []byte("abcabc"), 3, 3)
	wantChain(t, []byte("abcabc"), 0)
	wantChain(t, []byte("abcabc"), 4)
	wantChain(t, []byte("aaaaaa"), 3, 1, 2, 3)
	wantChain(t, []byte("aaaaaa"), 4)
	wantChain(t, []byte("abXabYabXab"), 6, 6)
	wantChain(t, make([]byte, 10), 1, 1)
}

func TestChainOfAll(t *testing.T) {
	b := make([]byte, window+10)
	got := match.New(b).Chain(window + 5)
	if len(got) != window || got[0] != 1 || got[window-1] != window {
		t.Errorf("%d candidates", len(got))
	}
}

func TestFinderLeavesBytes(t *testing.T) {
	b := []byte("abcabcabc")
	f := match.New(b)
	got := f.Chain(6)
	got[0], got[1] = 8, 9
	if !slices.Equal(f.Chain(6), []int{3, 6}) || string(b) != "abcabcabc" {
		t.Errorf("%d, of %q", f.Chain(6), b)
	}
	for range 3 {
		if n, dist := f.Find(3, 2); n != 6 || dist != 3 {
			t.Errorf("Find: %d %d", n, dist)
		}
	}
}

func TestNil(t *testing.T) {
	var f *match.Finder
	for _, at := range []int{-1, 0, 1} {
		if n, dist := f.Find(at, 3); n != 0 || dist != 0 {
			t.Errorf("Find: %d %d", n, dist)
		}
		if l := f.Chain(at); len(l) != 0 {
			t.Errorf("Chain: %d", l)
		}
	}
}

// 10.3

// slow is the candidates by the chapter's words.
func slow(b []byte, at int) []int {
	var l []int
	for dist := 1; dist <= window && dist <= at && at+3 <= len(b); dist++ {
		if bytes.Equal(b[at:at+3], b[at-dist:at-dist+3]) {
			l = append(l, dist)
		}
	}
	return l
}

// slowBest is the best match by the chapter's words.
func slowBest(b []byte, at, depth int) (n, dist int) {
	l := slow(b, at)
	for _, d := range l[:min(len(l), depth)] {
		long := 0
		for long < longest && at+long < len(b) && b[at+long] == b[at+long-d] {
			long++
		}
		if long > n {
			n, dist = long, d
		}
	}
	return n, dist
}

func TestByTheWords(t *testing.T) {
	throw := sample.Dice(1)
	for round := range 60 {
		b := few(throw, throw(500), 1+round%4)
		if round%5 == 0 {
			b = append(b, b...)
		}
		f := match.New(b)
		for at := range b {
			wantChain := slow(b, at)
			if got := f.Chain(at); !slices.Equal(got, wantChain) {
				t.Fatalf("Chain(%q, %d): %d, not %d", b, at, got, wantChain)
			}
			shorter := 0
			for _, depth := range []int{1, 2, 4, 32, 256} {
				n, dist := slowBest(b, at, depth)
				if gn, gd := f.Find(at, depth); gn != n || gd != dist {
					t.Fatalf("Find(%q, %d, %d): %d %d, not %d %d", b, at, depth, gn, gd, n, dist)
				}
				if gn, gd := match.Best(b, at, depth); gn != n || gd != dist {
					t.Fatalf("Best(%q, %d, %d): %d %d, not %d %d", b, at, depth, gn, gd, n, dist)
				}
				if n < shorter || n > match.Len(b, at, dist) || n > 0 && !bytes.Equal(b[at:at+min(n, dist)], b[at-dist:at-dist+min(n, dist)]) {
					t.Fatalf("Find(%q, %d, %d): %d %d isn't there", b, at, depth, n, dist)
				}
				shorter = n
			}
		}
	}
}

func TestManyPlaces(t *testing.T) {
	throw := sample.Dice(2)
	b := few(throw, 70000, 3)
	f := match.New(b)
	for range 60 {
		at, depth := throw(len(b)), 1+throw(300)
		n, dist := slowBest(b, at, depth)
		if gn, gd := f.Find(at, depth); gn != n || gd != dist {
			t.Errorf("Find(%d, %d): %d %d, not %d %d", at, depth, gn, gd, n, dist)
		}
		if !slices.Equal(f.Chain(at), slow(b, at)) {
			t.Errorf("Chain(%d) is another one", at)
		}
	}
}
