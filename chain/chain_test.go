package chain_test

import (
	"bytes"
	"math"
	"slices"
	"testing"

	"bindle/api"
	"bindle/chain"
	"bindle/match"
	"bindle/sample"
	"bindle/tokens"
)

const (
	window  = 32768
	longest = 258
)

// some is bytes of few kinds, of which several begin alike or have one hash: of a and e, three bytes that begin with either do.
func some(dice func(int) int, n int) []byte {
	kinds := []string{"a", "ab", "ae", "aebf", "abcdefgh"}[dice(5)]
	b := make([]byte, n)
	for i := range b {
		b[i] = kinds[dice(len(kinds))]
		if far := 1 + dice(40); i >= far && dice(3) > 0 {
			b[i] = b[i-far]
		}
	}
	return b
}

// slowHash is a hash by the chapter's words, bit by bit.
func slowHash(a, b, c byte) int {
	hash := 0
	for bit := range 12 {
		ones := a>>max(bit-10, 0)&1*at(bit >= 10) + b>>max(bit-5, 0)&1*at(bit >= 5 && bit < 13) + c>>min(bit, 7)&1*at(bit < 8)
		hash += int(ones%2) << bit
	}
	return hash
}

func at(there bool) byte {
	if there {
		return 1
	}
	return 0
}

// slowPrev is the place ahead of one in its chain by the words.
func slowPrev(b []byte, at int) (int, bool) {
	if at < 0 || at > len(b)-3 {
		return 0, false
	}
	for place := at - 1; place >= 0; place-- {
		if chain.Hash(b[place], b[place+1], b[place+2]) == chain.Hash(b[at], b[at+1], b[at+2]) {
			return place, true
		}
	}
	return 0, false
}

// 35.1

func TestHash(t *testing.T) {
	for _, x := range []struct {
		a, b, c byte
		want    int
	}{
		{0, 0, 0, 0}, {0, 0, 1, 1}, {0, 0, 255, 255}, {0, 1, 0, 32}, {0, 255, 0, 8160 % 4096}, {1, 0, 0, 1024}, {3, 0, 0, 3072}, {4, 0, 0, 0}, {255, 0, 0, 3072}, {0, 1, 32, 0}, {1, 32, 0, 0}, {255, 255, 255, 3072 ^ 4064 ^ 255},
	} {
		if got := chain.Hash(x.a, x.b, x.c); got != x.want {
			t.Errorf("Hash(%d, %d, %d): %d, not %d", x.a, x.b, x.c, got, x.want)
		}
	}
	for a := range 256 {
		for b := range 256 {
			for _, c := range []int{0, 1, 31, 32, 85, 128, 255, (a + b) % 256} {
				if got, want := chain.Hash(byte(a), byte(b), byte(c)), slowHash(byte(a), byte(b), byte(c)); got != want {
					t.Fatalf("Hash(%d, %d, %d): %d, not %d", a, b, c, got, want)
				}
			}
		}
	}
}

func TestExample(t *testing.T) {
	c := chain.New([]byte("abcabc"))
	if at, there := c.Prev(3); at != 0 || !there {
		t.Errorf("Prev: %d %t", at, there)
	}
	if n, dist := c.Find(3, 1); n != 3 || dist != 3 {
		t.Errorf("Find: %d %d", n, dist)
	}
}

func TestPrev(t *testing.T) {
	dice := sample.Dice(35)
	for n := range 60 {
		b := some(dice, n)
		c := chain.New(b)
		for at := -2; at < n+3; at++ {
			want, there := slowPrev(b, at)
			if got, ok := c.Prev(at); got != want || ok != there {
				t.Fatalf("of %q: Prev of %d: %d %t, not %d %t", b, at, got, ok, want, there)
			}
		}
		for _, at := range []int{math.MinInt, math.MinInt + 1, -1 << 40, math.MaxInt - 2, math.MaxInt} {
			if got, ok := c.Prev(at); got != 0 || ok {
				t.Fatalf("Prev of %d: %d %t", at, got, ok)
			}
		}
	}
	// A chain has places of unlike bytes, and goes beyond the window.
	c := chain.New([]byte("abc-ebc-abc"))
	for at, want := range map[int]int{4: 0, 8: 4} {
		if got, ok := c.Prev(at); got != want || !ok {
			t.Errorf("Prev of %d: %d %t", at, got, ok)
		}
	}
	far := append([]byte("abc"), make([]byte, 100000)...)
	c = chain.New(append(far, "abc"...))
	if got, ok := c.Prev(len(far)); got != 0 || !ok {
		t.Errorf("far off: %d %t", got, ok)
	}
}

// 35.2

func wantFind(t *testing.T, c *chain.Chain, b []byte, at, depth int) {
	t.Helper()
	wn, wd := match.Best(b, at, depth)
	if n, dist := c.Find(at, depth); n != wn || dist != wd {
		t.Fatalf("of %.60q: Find(%d, %d): %d %d, not %d %d", b, at, depth, n, dist, wn, wd)
	}
}

func TestFind(t *testing.T) {
	dice := sample.Dice(36)
	for n := range 120 {
		b := some(dice, n)
		c := chain.New(b)
		for at := -2; at < n+3; at++ {
			for _, depth := range []int{math.MinInt, -1, 0, 1, 2, 3, 4, 7, 32, 256, math.MaxInt} {
				wantFind(t, c, b, at, depth)
			}
		}
		for _, at := range []int{math.MinInt, math.MaxInt} {
			wantFind(t, c, b, at, 32)
		}
	}
}

// Of places that have one hash those with other bytes are no candidates: they don't count for the depth.
func TestFindPassesOverOtherBytes(t *testing.T) {
	b := []byte("abcd.abcx.ebc.ibc.mbc.abcd")
	c := chain.New(b)
	for depth := range 4 {
		wantFind(t, c, b, 22, depth)
	}
	if n, dist := c.Find(22, 1); n != 3 || dist != 17 {
		t.Errorf("%d %d", n, dist)
	}
	if n, dist := c.Find(22, 2); n != 4 || dist != 22 {
		t.Errorf("%d %d", n, dist)
	}
	// Two bytes that are alike are no match.
	b = []byte("abc.abg")
	if chain.Hash('a', 'b', 'c') == chain.Hash('a', 'b', 'g') {
		t.Fatal("one hash")
	}
	b = []byte{4, 1, 0, 9, 9, 0, 1, 32, 4, 1, 7}
	for at := range b {
		wantFind(t, chain.New(b), b, at, 9)
	}
}

// apart is a text, so many bytes that are no letters, and the text anew: the distance of both is dist.
func apart(text string, dist int) []byte {
	b := []byte(text)
	for i := 0; len(b) < dist; i++ {
		b = append(b, byte(i%3))
	}
	return append(b, text...)
}

func TestWindow(t *testing.T) {
	for dist := window - 2; dist <= window+2; dist++ {
		b := apart("abcde", dist)
		c := chain.New(b)
		wantFind(t, c, b, dist, 9)
		if n, _ := c.Find(dist, 1); (n == 5) != (dist <= window) {
			t.Errorf("%d ahead: %d", dist, n)
		}
	}
	// A nearer one that is no longer is the best one; a longer one beyond the window isn't looked at.
	b := slices.Concat(apart("abcde", window), []byte("abcd"))
	for at := window - 3; at < len(b); at++ {
		wantFind(t, chain.New(b), b, at, 9)
	}
}

func TestLongest(t *testing.T) {
	for _, n := range []int{255, 256, 257, 258, 259, 260, 600} {
		b := apart(string(bytes.Repeat([]byte("x"), n)), 700)
		c := chain.New(b)
		for at := 690; at < len(b); at += 7 {
			wantFind(t, c, b, at, 1)
			wantFind(t, c, b, at, 300)
		}
		if n, dist := c.Find(700, 300); n > longest || n == longest && dist > 700 {
			t.Errorf("%d %d", n, dist)
		}
	}
}

// wantTokens holds what is split against tokens that are found without chains.
func wantTokens(t *testing.T, c *chain.Chain, b []byte, level int) {
	t.Helper()
	want := tokens.Split(b, level)
	if got := c.Split(level); !slices.Equal(got, want) {
		t.Fatalf("of %.60q, level %d: %d tokens, not %d", b, level, len(got), len(want))
	}
	for range 2 {
		if got := slices.Collect(c.Each(level)); !slices.Equal(got, want) {
			t.Fatalf("of %.60q, level %d: Each: %d tokens, not %d", b, level, len(got), len(want))
		}
	}
}

func levels() []int {
	return []int{math.MinInt, -1, 0, 1, 2, 3, 4, math.MaxInt}
}

func TestTokens(t *testing.T) {
	for _, text := range []string{"", "a", "ab", "abc", "aaaa", "abcabc", "abcbcdabcd", "abcabcdbcde-abcde"} {
		for _, level := range levels() {
			wantTokens(t, chain.New([]byte(text)), []byte(text), level)
		}
	}
	for _, level := range levels() {
		b := make([]byte, 1000)
		wantTokens(t, chain.New(b), b, level)
	}
}

func TestEachIsLeft(t *testing.T) {
	b := []byte("abcdabceabcd")
	c := chain.New(b)
	all := c.Split(1)
	for n := range all {
		var got []api.Token
		for x := range c.Each(1) {
			got = append(got, x)
			if len(got) > n {
				break
			}
		}
		if !slices.Equal(got, all[:n+1]) {
			t.Errorf("left behind %d: %v", n+1, got)
		}
	}
}

func TestANilChain(t *testing.T) {
	var c *chain.Chain
	for _, at := range []int{math.MinInt, -1, 0, 1, math.MaxInt} {
		if place, there := c.Prev(at); place != 0 || there {
			t.Errorf("Prev: %d %t", place, there)
		}
		if n, dist := c.Find(at, 9); n != 0 || dist != 0 {
			t.Errorf("Find: %d %d", n, dist)
		}
		if len(c.Split(at)) != 0 || len(slices.Collect(c.Each(at))) != 0 {
			t.Error("it has tokens")
		}
	}
}

func TestBytesAreLeft(t *testing.T) {
	b := some(sample.Dice(1), 500)
	kept := bytes.Clone(b)
	c := chain.New(b)
	first := c.Split(3)
	clear(first)
	wantTokens(t, c, b, 3)
	if !bytes.Equal(b, kept) {
		t.Error("the bytes are changed")
	}
}

// 35.3

func TestAnyOrder(t *testing.T) {
	dice := sample.Dice(37)
	b := some(dice, 400)
	c := chain.New(b)
	for range 2000 {
		wantFind(t, c, b, dice(len(b)), 1+dice(40))
		if dice(100) == 0 {
			wantTokens(t, c, b, dice(4))
		}
	}
}

func TestTokensAreThoseWithoutChains(t *testing.T) {
	dice := sample.Dice(38)
	for range 60 {
		b := some(dice, dice(3000))
		c := chain.New(b)
		for level := range 4 {
			wantTokens(t, c, b, level)
		}
	}
	// Bytes of any kind; and a long text, whose matches reach to the window's end.
	b := sample.Bytes(20000, 1)
	for i := range b {
		b[i] &= 0x85
	}
	line := some(dice, 200)
	for len(b) < 65536 {
		b = append(b, line[:1+dice(200)]...)
	}
	c := chain.New(b)
	for level := range 4 {
		wantTokens(t, c, b, level)
	}
}
