package symbol_test

import (
	"math"
	"testing"

	"bindle/api"
	"bindle/symbol"
	"bindle/tokens"
)

type (
	class = symbol.Class
	row   = symbol.Row
	token = api.Token
)

const window = 32768

func wantOf(t *testing.T, v int, want class, ok bool) {
	t.Helper()
	if c, there := symbol.Of(v); c != want || there != ok {
		t.Errorf("Of(%d): %v %t, not %v %t", v, c, there, want, ok)
	}
}

func wantValue(t *testing.T, c class, want int, ok bool) {
	t.Helper()
	if v, there := symbol.Value(c); v != want || there != ok {
		t.Errorf("Value(%v): %d %t, not %d %t", c, v, there, want, ok)
	}
}

func wantSplit(t *testing.T, x token, want row, ok bool) {
	t.Helper()
	if r, there := symbol.Split(x); r != want || there != ok {
		t.Errorf("Split(%v): %v %t, not %v %t", x, r, there, want, ok)
	}
}

func wantJoin(t *testing.T, r row, want token, ok bool) {
	t.Helper()
	if x, there := symbol.Join(r); x != want || there != ok {
		t.Errorf("Join(%v): %v %t, not %v %t", r, x, there, want, ok)
	}
}

func TestNumbers(t *testing.T) {
	if symbol.Firsts != 273 || symbol.Seconds != 30 || symbol.End != 256 {
		t.Error("other numbers")
	}
}

// 12.1

func TestExample(t *testing.T) {
	wantOf(t, 9, class{6, 2, 1}, true)
	wantValue(t, class{6, 2, 1}, 9, true)
}

func TestOf(t *testing.T) {
	for _, x := range []struct {
		v    int
		want class
	}{
		{0, class{}}, {1, class{1, 0, 0}}, {2, class{2, 0, 0}}, {3, class{3, 0, 0}},
		{4, class{4, 1, 0}}, {5, class{4, 1, 1}}, {6, class{5, 1, 0}}, {7, class{5, 1, 1}},
		{8, class{6, 2, 0}}, {11, class{6, 2, 3}}, {12, class{7, 2, 0}}, {15, class{7, 2, 3}},
		{16, class{8, 3, 0}}, {255, class{15, 6, 63}}, {256, class{16, 7, 0}},
		{16383, class{27, 12, 4095}}, {16384, class{28, 13, 0}}, {24575, class{28, 13, 8191}}, {24576, class{29, 13, 0}}, {32767, class{29, 13, 8191}},
	} {
		wantOf(t, x.v, x.want, true)
		wantValue(t, x.want, x.v, true)
	}
	for _, v := range []int{-1, -5, math.MinInt, window, window + 1, 65536, 1 << 32, math.MaxInt} {
		wantOf(t, v, class{}, false)
	}
}

func TestBase(t *testing.T) {
	least := []int{0, 1, 2, 3, 4, 6, 8, 12, 16, 24, 32, 48, 64, 96, 128, 192, 256, 384, 512, 768, 1024, 1536, 2048, 3072, 4096, 6144, 8192, 12288, 16384, 24576}
	width := []int{0, 0, 0, 0, 1, 1, 2, 2, 3, 3, 4, 4, 5, 5, 6, 6, 7, 7, 8, 8, 9, 9, 10, 10, 11, 11, 12, 12, 13, 13}
	for n := range 30 {
		if v, w, ok := symbol.Base(n); v != least[n] || w != width[n] || !ok {
			t.Errorf("Base(%d): %d %d %t, not %d %d", n, v, w, ok, least[n], width[n])
		}
	}
	for _, n := range []int{-1, -2, math.MinInt, 30, 31, 257, math.MaxInt} {
		if v, w, ok := symbol.Base(n); v != 0 || w != 0 || ok {
			t.Errorf("Base(%d): %d %d %t", n, v, w, ok)
		}
	}
}

func TestValueOfNone(t *testing.T) {
	for _, c := range []class{
		{-1, 0, 0}, {30, 0, 0}, {30, 14, 0}, {math.MinInt, 0, 0}, {math.MaxInt, 0, 0}, {257, 0, 0},
		{0, 1, 0}, {0, -1, 0}, {3, 1, 0}, {4, 0, 0}, {4, 2, 0}, {4, -1, 0}, {6, 1, 0}, {6, 3, 0}, {29, 12, 0}, {29, 14, 0}, {6, math.MinInt, 0}, {6, math.MaxInt, 0},
		{0, 0, 1}, {1, 0, 1}, {3, 0, 1}, {3, 0, math.MaxUint32}, {4, 1, 2}, {5, 1, 2}, {6, 2, 4}, {6, 2, 5}, {28, 13, 8192}, {29, 13, 8192}, {29, 13, math.MaxUint32}, {4, 1, 1 << 31},
		{0, 0, 9}, {-1, 0, 1}, {30, 13, 9},
	} {
		wantValue(t, c, 0, false)
	}
}

// All that there is around each class: only that is one which the words allow.
func TestValueAroundAll(t *testing.T) {
	for n := -3; n < 34; n++ {
		for width := -2; width < 17; width++ {
			for _, extra := range []uint32{0, 1, 2, 3, 1<<max(width, 0) - 1, 1 << max(width, 0), 1<<max(width, 0) + 1, 1 << 20} {
				right := 0
				if n >= 4 {
					right = (n - 2) / 2
				}
				ok := n >= 0 && n < 30 && width == right && extra < 1<<right
				want := 0
				if least, _, _ := symbol.Base(n); ok {
					want = least + int(extra)
				}
				wantValue(t, class{n, width, extra}, want, ok)
			}
		}
	}
}

// 12.2

func TestSplit(t *testing.T) {
	for _, x := range []struct {
		t    token
		want row
	}{
		{token{}, row{}},
		{token{Byte: 1}, row{First: class{Number: 1}}},
		{token{Byte: 255}, row{First: class{Number: 255}}},
		{token{Len: 3, Dist: 1}, row{class{257, 0, 0}, class{0, 0, 0}, true}},
		{token{Len: 4, Dist: 2}, row{class{258, 0, 0}, class{1, 0, 0}, true}},
		{token{Len: 7, Dist: 1}, row{class{261, 1, 0}, class{0, 0, 0}, true}},
		{token{Len: 12, Dist: 10}, row{class{263, 2, 1}, class{6, 2, 1}, true}},
		{token{Len: 258, Dist: window}, row{class{272, 6, 63}, class{29, 13, 8191}, true}},
		{token{Len: 3, Dist: window}, row{class{257, 0, 0}, class{29, 13, 8191}, true}},
	} {
		wantSplit(t, x.t, x.want, true)
		wantJoin(t, x.want, x.t, true)
	}
}

func TestSplitOfNone(t *testing.T) {
	for _, x := range []token{
		{Len: 2, Dist: 1}, {Len: 1, Dist: 1}, {Len: 259, Dist: 1}, {Len: 3}, {Len: 3, Dist: window + 1}, {Dist: 1}, {Len: -1}, {Len: 3, Dist: -1}, {Byte: 1, Len: 3, Dist: 1}, {Byte: 1, Dist: 1},
		{Len: math.MinInt, Dist: math.MinInt}, {Len: math.MaxInt, Dist: math.MaxInt},
	} {
		wantSplit(t, x, row{}, false)
	}
}

func TestJoinOfNone(t *testing.T) {
	for _, r := range []row{
		{First: class{Number: 256}},
		{First: class{Number: -1}},
		{First: class{Number: 257}},
		{First: class{Number: 511}},
		{First: class{Number: math.MinInt}},
		{First: class{Number: math.MaxInt}},
		{First: class{Number: 97, Bits: 1}},
		{First: class{Number: 97, Extra: 1}},
		{First: class{Number: 97}, Second: class{Number: 1}},
		{First: class{Number: 97}, Second: class{Bits: 1}},
		{First: class{Number: 97}, Second: class{Extra: 1}},
		{First: class{Number: 97}, Match: true},
		{First: class{Number: 0}, Match: true},
		{First: class{Number: 256}, Match: true},
		{First: class{Number: 273, Bits: 7}, Match: true},
		{First: class{Number: 286, Bits: 13}, Match: true},
		{First: class{Number: 287, Bits: 14}, Match: true},
		{First: class{Number: math.MinInt}, Match: true},
		{First: class{Number: math.MaxInt}, Match: true},
		{First: class{Number: 257, Bits: 1}, Match: true},
		{First: class{Number: 257, Extra: 1}, Match: true},
		{First: class{Number: 261}, Match: true},
		{First: class{Number: 261, Bits: 1, Extra: 2}, Match: true},
		{First: class{Number: 272, Bits: 6, Extra: 64}, Match: true},
		{First: class{Number: 257}, Second: class{Number: -1}, Match: true},
		{First: class{Number: 257}, Second: class{Number: 30, Bits: 14}, Match: true},
		{First: class{Number: 257}, Second: class{Number: 4}, Match: true},
		{First: class{Number: 257}, Second: class{Number: 4, Bits: 1, Extra: 2}, Match: true},
		{First: class{Number: 257}, Second: class{Number: 29, Bits: 13, Extra: 8192}, Match: true},
		{First: class{Number: 257}},
		{First: class{Number: 257}, Second: class{Number: 1}},
	} {
		wantJoin(t, r, token{}, false)
	}
}

// 12.3

// slow is the class of a number by the chapter's words.
func slow(v int) class {
	if v < 4 {
		return class{Number: v}
	}
	b, power := 0, 1
	for v >= power {
		b++
		power *= 2
	}
	divisor := power / 4
	return class{2*(b-2) + v/divisor, b - 2, uint32(v % divisor)}
}

func TestAllNumbers(t *testing.T) {
	ahead := 0
	for v := range window {
		c := slow(v)
		wantOf(t, v, c, true)
		wantValue(t, c, v, true)
		least, width, ok := symbol.Base(c.Number)
		if least+int(c.Extra) != v || width != c.Bits || !ok {
			t.Errorf("Base(%d): %d %d", c.Number, least, width)
		}
		if c.Number < ahead {
			t.Errorf("%d has a lower class than one that is less", v)
		}
		ahead = c.Number
	}
}

func TestAllTokens(t *testing.T) {
	for x := range 256 {
		wantSplit(t, token{Byte: byte(x)}, row{First: class{Number: x}}, true)
		wantJoin(t, row{First: class{Number: x}}, token{Byte: byte(x)}, true)
	}
	for n := 3; n <= 258; n++ {
		for dist := 1; dist <= window; dist += 1 + (n*dist)%97 {
			x := token{Len: n, Dist: dist}
			first := slow(n - 3)
			first.Number += 257
			r := row{first, slow(dist - 1), true}
			wantSplit(t, x, r, true)
			wantJoin(t, r, x, true)
			if first.Number >= symbol.Firsts || r.Second.Number >= symbol.Seconds {
				t.Errorf("%v is beyond the alphabets", r)
			}
		}
	}
}

// What is joined is a token of just these symbols.
func TestJoinAroundAll(t *testing.T) {
	for n := -2; n < 300; n++ {
		for width := -1; width < 8; width++ {
			for _, extra := range []uint32{0, 1, 3, 63, 64} {
				for _, second := range []class{{}, {1, 0, 0}, {4, 1, 1}, {4, 1, 2}} {
					for _, match := range []bool{false, true} {
						r := row{class{n, width, extra}, second, match}
						x, ok := symbol.Join(r)
						back, is := symbol.Split(x)
						if ok && (!is || back != r || !tokens.Right(x)) || !ok && x != (token{}) {
							t.Fatalf("Join(%v): %v %t", r, x, ok)
						}
					}
				}
			}
		}
	}
}
