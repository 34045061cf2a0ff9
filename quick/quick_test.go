package quick_test

import (
	"math"
	"slices"
	"strings"
	"testing"

	"bindle/api"
	"bindle/bits"
	"bindle/canon"
	"bindle/quick"
	"bindle/sample"
)

func made(t *testing.T, l []int, width int) *quick.Table {
	t.Helper()
	q, e := quick.New(l, width)
	if q == nil || e != api.OK {
		t.Fatalf("New(%d, %d): %v %d", l, width, q, e)
	}
	return q
}

// codes is the codes of lengths, as 0 and 1; a text that is empty is none.
func codes(t *testing.T, l []int) []string {
	t.Helper()
	values, e := canon.Values(l)
	if e != api.OK {
		t.Fatal("no code")
	}
	all := make([]string, len(l))
	for s, n := range l {
		for k := n - 1; k >= 0; k-- {
			all[s] += string(rune('0' + values[s]>>k&1))
		}
	}
	return all
}

// slowRow is the row of a number by the chapter's words.
func slowRow(codes []string, n, width int) quick.Row {
	text := sample.Number(n, width)
	row := quick.Row{}
	for s, code := range codes {
		if code != "" && strings.HasPrefix(text, code) {
			return quick.Row{Symbol: s, Len: len(code)}
		}
		if strings.HasPrefix(code, text) {
			row.Deep = true
			row.Len = max(row.Len, len(code))
		}
	}
	return row
}

// deep is lengths up to 15.
func deep() []int {
	return []int{15, 1, 2, 3, 4, 5, 6, 7, 8, 9, 10, 11, 12, 13, 14, 15}
}

// flat is so many symbols of one length.
func flat(n int) []int {
	return slices.Repeat([]int{n}, 1<<n)
}

// some are lengths that may be a code.
func some() [][]int {
	return [][]int{{1}, {0, 0, 1, 0}, {1, 1}, {2, 1, 2}, flat(2), flat(5), flat(8), deep(), append(deep(), slices.Repeat([]int{0}, 304)...), {3, 0, 3, 1, 2}}
}

// wantTable holds all rows of a table against those that the words give.
func wantTable(t *testing.T, l []int, width int) {
	t.Helper()
	q := made(t, l, width)
	all := codes(t, l)
	if q.Width() != width {
		t.Fatalf("Width: %d, not %d", q.Width(), width)
	}
	size := 1 << width
	for n := range 1 << width {
		want := slowRow(all, n, width)
		if q.Row(n) != want {
			t.Fatalf("of %d, width %d: the row of %d is %v, not %v", l, width, n, q.Row(n), want)
		}
		if want.Deep {
			size += 1 << (want.Len - width)
		}
	}
	if q.Size() != size {
		t.Fatalf("of %d, width %d: Size %d, not %d", l, width, q.Size(), size)
	}
	for _, n := range []int{math.MinInt, -1, 1 << width, 1<<width + 1, 1 << 32, math.MaxInt} {
		if q.Row(n) != (quick.Row{}) {
			t.Fatalf("width %d: the row of %d is %v", width, n, q.Row(n))
		}
	}
}

// 34.1

func TestTurn(t *testing.T) {
	for width := range 16 {
		for n := range 1 << width {
			want := 0
			for k := range width {
				want = 2*want + n>>k&1
			}
			if got := quick.Turn(n, width); got != want {
				t.Fatalf("Turn(%d, %d): %d, not %d", n, width, got, want)
			}
			// Higher bits don't count.
			for _, other := range []int{n + 1<<width, n - 1<<width, n + 5<<40, n - 1<<62} {
				if got := quick.Turn(other, width); got != want {
					t.Fatalf("Turn(%d, %d): %d, not %d", other, width, got, want)
				}
			}
		}
	}
	for _, x := range []struct{ n, width, want int }{
		{6, 3, 3}, {6, 4, 6}, {1, 15, 1 << 14}, {1, 16, 1 << 14}, {1, math.MaxInt, 1 << 14}, {1 << 15, 16, 0},
		{5, 0, 0}, {5, -1, 0}, {5, math.MinInt, 0}, {-1, 15, 1<<15 - 1}, {-1, 1, 1}, {math.MinInt, 15, 0}, {math.MaxInt, 4, 15},
	} {
		if got := quick.Turn(x.n, x.width); got != x.want {
			t.Errorf("Turn(%d, %d): %d, not %d", x.n, x.width, got, x.want)
		}
	}
}

// 34.2

func TestExample(t *testing.T) {
	q := made(t, []int{2, 1, 2}, 1)
	if q.Row(0) != (quick.Row{Symbol: 1, Len: 1}) || q.Row(1) != (quick.Row{Len: 2, Deep: true}) || q.Size() != 4 || q.Width() != 1 {
		t.Errorf("%v %v, %d rows", q.Row(0), q.Row(1), q.Size())
	}
}

func TestTables(t *testing.T) {
	for _, l := range some() {
		for width := 1; width <= 12; width++ {
			wantTable(t, l, width)
		}
	}
	wantTable(t, deep(), 13)
	wantTable(t, deep(), 14)
	wantTable(t, deep(), 15)
}

func TestWidths(t *testing.T) {
	for given, want := range map[int]int{math.MinInt: 1, -1: 1, 0: 1, 1: 1, 2: 2, 15: 15, 16: 15, math.MaxInt: 15} {
		q := made(t, deep(), given)
		if q.Width() != want {
			t.Errorf("width %d: %d, not %d", given, q.Width(), want)
		}
		if same := made(t, deep(), want); q.Size() != same.Size() {
			t.Errorf("width %d: %d rows, not %d", given, q.Size(), same.Size())
		}
	}
}

func TestNewRefused(t *testing.T) {
	for _, l := range [][]int{nil, {0}, {2}, {1, 1, 1}, {1, 2}, {-1, 1}, {1, 1, -1}, {16, 1}, {15}, slices.Repeat([]int{0}, 320), append(deep(), 15), slices.Repeat([]int{9}, 512), append([]int{1}, slices.Repeat([]int{0}, 320)...)} {
		for _, width := range []int{-1, 0, 1, 9, 15, 16} {
			if q, e := quick.New(l, width); q != nil || e != api.ErrCodes {
				t.Errorf("New(%d, %d): %v %d", l, width, q, e)
			}
		}
	}
}

func TestNewKeepsNothing(t *testing.T) {
	l := deep()
	q := made(t, l, 4)
	if !slices.Equal(l, deep()) {
		t.Error("the lengths are changed")
	}
	clear(l)
	all := codes(t, deep())
	for n := range 16 {
		if q.Row(n) != slowRow(all, n, 4) {
			t.Error("the lengths are kept")
		}
	}
	wantTake(t, "deep", q, sample.Bits(all[15]), 15, api.OK, 15)
}

// 34.3

func wantTake(t *testing.T, what string, q *quick.Table, r *bits.Reader, symbol int, e api.Errno, goesOn int) {
	t.Helper()
	at := r.At()
	if s, got := q.Take(r); s != symbol || got != e || r.At() != at+goesOn {
		t.Errorf("%s: Take: %d %d, and goes on by %d, not %d %d, and by %d", what, s, got, r.At()-at, symbol, e, goesOn)
	}
}

func TestTake(t *testing.T) {
	for _, l := range some() {
		all := codes(t, l)
		for width := 1; width <= 15; width++ {
			q := made(t, l, width)
			for s, code := range all {
				if code == "" {
					continue
				}
				wantTake(t, "alone", q, sample.Bits(code), s, api.OK, len(code))
				wantTake(t, "ahead of others", q, sample.Bits(code+"0110"), s, api.OK, len(code))
				wantTake(t, "ahead of others", q, sample.Bits(code+strings.Repeat("1", 20)), s, api.OK, len(code))
				for n := range code {
					wantTake(t, "not all there", q, sample.Bits(code[:n]), 0, api.ErrEnd, 0)
				}
			}
		}
	}
}

func TestTakeAlone(t *testing.T) {
	for width := 1; width <= 15; width++ {
		q := made(t, []int{0, 0, 1}, width)
		r := sample.Bits("00100")
		wantTake(t, "0", q, r, 2, api.OK, 1)
		wantTake(t, "0", q, r, 2, api.OK, 1)
		wantTake(t, "1", q, r, 0, api.ErrCodes, 0)
		wantTake(t, "1 again", q, r, 0, api.ErrCodes, 0)
		wantTake(t, "1 at the end", q, sample.Bits("1"), 0, api.ErrCodes, 0)
		wantTake(t, "nothing", q, sample.Bits(""), 0, api.ErrEnd, 0)
	}
}

func TestNil(t *testing.T) {
	var q *quick.Table
	r := sample.Bits("0")
	wantTake(t, "a nil table", q, r, 0, api.ErrArg, 0)
	wantTake(t, "both", q, nil, 0, api.ErrArg, 0)
	wantTake(t, "a nil reader", made(t, []int{1, 1}, 3), nil, 0, api.ErrArg, 0)
	if q.Width() != 0 || q.Size() != 0 || q.Row(0) != (quick.Row{}) {
		t.Error("a nil table has something")
	}
}

// 34.4

// Whatever the width is, all bits are taken as the code itself takes them.
func TestWhatACodeTakes(t *testing.T) {
	dice := sample.Dice(34)
	for range 300 {
		l := sample.Lengths(dice)
		c, e := canon.New(l)
		if e != api.OK {
			t.Fatal("no code")
		}
		b := make([]byte, dice(16))
		for i := range b {
			b[i] = byte(dice(256)) & byte(dice(256)) >> dice(2)
			if dice(3) == 0 {
				b[i] = 255
			}
		}
		for _, width := range []int{1, 2, 3, 5, 7, 8, 9, 11, 14, 15} {
			q := made(t, l, width)
			slow, fast := bits.New(b), bits.New(b)
			for {
				at := slow.At()
				s, e := c.Take(slow)
				wantTake(t, sample.Text(fast), q, fast, s, e, slow.At()-at)
				if e != api.OK {
					break
				}
			}
			if t.Failed() {
				t.Fatalf("of %d, width %d", l, width)
			}
		}
	}
}

func TestTablesOfAnyLengths(t *testing.T) {
	dice := sample.Dice(35)
	for range 60 {
		wantTable(t, sample.Lengths(dice), 1+dice(10))
	}
}
