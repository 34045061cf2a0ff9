package weigh_test

import (
	"math"
	"slices"
	"sort"
	"testing"

	"bindle/api"
	"bindle/sample"
	"bindle/weigh"
)

const heaviest = 1 << 30

func lengths(t *testing.T, w []int) []int {
	t.Helper()
	l, e := weigh.Lengths(w)
	if e != api.OK || len(l) != len(w) {
		t.Fatalf("Lengths(%d): %d %d", w, l, e)
	}
	return l
}

func wantLengths(t *testing.T, w, want []int) {
	t.Helper()
	if l := lengths(t, w); !slices.Equal(l, want) {
		t.Errorf("Lengths(%d): %d, not %d", w, l, want)
	}
}

func repeated(n, times int) []int {
	return slices.Repeat([]int{n}, times)
}

// fibonacci is weights whose lengths would be as unlike as they can be, if they were as long as they liked.
func fibonacci(n int) []int {
	l := []int{1, 1}
	for len(l) < n {
		l = append(l, l[len(l)-1]+l[len(l)-2])
	}
	return l[:n]
}

// 7.1

func TestLengthsExample(t *testing.T) {
	wantLengths(t, []int{1, 1, 2}, []int{2, 2, 1})
}

func TestLengthsOfFew(t *testing.T) {
	for _, x := range []struct{ w, l []int }{
		{nil, nil},
		{[]int{}, nil},
		{[]int{0}, []int{0}},
		{[]int{0, 0, 0}, []int{0, 0, 0}},
		{[]int{1}, []int{1}},
		{[]int{heaviest}, []int{1}},
		{[]int{0, 0, 7, 0}, []int{0, 0, 1, 0}},
		{[]int{3, 9}, []int{1, 1}},
		{[]int{0, heaviest, 0, 1, 0}, []int{0, 1, 0, 1, 0}},
		{[]int{4, 1, 0, 2}, []int{1, 2, 0, 2}},
		{[]int{1, 1, 1}, []int{2, 2, 1}},
		{[]int{5, 5, 5, 5}, []int{2, 2, 2, 2}},
		{[]int{1, 1, 1, 1, 1}, []int{3, 3, 2, 2, 2}},
		{[]int{1, 2, 4, 8, 16}, []int{4, 4, 3, 2, 1}},
		{[]int{1, 1, 2, 2}, []int{2, 2, 2, 2}},
		{[]int{1, 1, 2, 3}, []int{3, 3, 2, 1}},
		{[]int{1, 2, 2, 3, 4}, []int{3, 3, 2, 2, 2}},
	} {
		wantLengths(t, x.w, x.l)
	}
}

func TestLengthsOfMany(t *testing.T) {
	wantLengths(t, repeated(1, 256), repeated(8, 256))
	wantLengths(t, repeated(heaviest, 320), append(repeated(9, 128), repeated(8, 192)...))
	wantLengths(t, append(repeated(0, 319), 1), append(repeated(0, 319), 1))
	if l, e := weigh.Lengths(append(repeated(1<<29, 319), 1<<30)); e != api.OK || l[319] != 8 {
		t.Errorf("%d %d", l, e)
	}
}

// No code is longer than 15 bits, where one would be without that.
func TestLengthsAtTheLimit(t *testing.T) {
	wantLengths(t, fibonacci(16), []int{15, 15, 14, 13, 12, 11, 10, 9, 8, 7, 6, 5, 4, 3, 2, 1})
	for n := 17; n <= 44; n++ {
		l := lengths(t, fibonacci(n))
		if slices.Max(l) != 15 || !weigh.Full(l) {
			t.Errorf("of %d: %d", n, l)
		}
	}
	wantLengths(t, fibonacci(17), []int{15, 15, 14, 13, 12, 11, 10, 9, 8, 7, 6, 5, 4, 3, 2, 2, 2})
}

func TestLengthsRefused(t *testing.T) {
	for _, x := range []struct {
		what string
		w    []int
		want api.Errno
	}{
		{"321", repeated(1, 321), api.ErrSize},
		{"321 of no weight", repeated(0, 321), api.ErrSize},
		{"321 that may not be", repeated(-1, 321), api.ErrSize},
		{"321, the last one of which may not be", append(repeated(1, 320), -1), api.ErrSize},
		{"100,000", repeated(1, 100000), api.ErrSize},
		{"below 0", []int{1, -1, 1}, api.ErrArg},
		{"below 0, the first one", []int{-1, 1}, api.ErrArg},
		{"below 0, alone", []int{-1}, api.ErrArg},
		{"below 0, the last one", append(repeated(1, 319), -1), api.ErrArg},
		{"the least number", []int{math.MinInt, 1}, api.ErrArg},
		{"above 2^30", []int{1, heaviest + 1}, api.ErrArg},
		{"above 2^30, alone", []int{heaviest + 1}, api.ErrArg},
		{"the greatest number", []int{math.MaxInt, 0}, api.ErrArg},
	} {
		if l, e := weigh.Lengths(x.w); len(l) != 0 || e != x.want {
			t.Errorf("%s: %d %d, not %d", x.what, l, e, x.want)
		}
	}
}

func TestLengthsLeavesWeights(t *testing.T) {
	w := []int{5, 0, 3, 9, 1, 1}
	l := lengths(t, w)
	if !slices.Equal(w, []int{5, 0, 3, 9, 1, 1}) {
		t.Errorf("changed: %d", w)
	}
	l[0] = 77
	if !slices.Equal(w, []int{5, 0, 3, 9, 1, 1}) || lengths(t, w)[0] == 77 {
		t.Error("the answer isn't new memory")
	}
}

// element is one of a row by the chapter's words: what it weighs, and how often it has each symbol.
type element struct {
	weight int
	has    map[int]int
}

// slow is the lengths by the chapter's words.
func slow(w []int) []int {
	var items []element
	for s, weight := range w {
		if weight > 0 {
			items = append(items, element{weight, map[int]int{s: 1}})
		}
	}
	sort.SliceStable(items, func(i, j int) bool { return items[i].weight < items[j].weight })
	l := make([]int, len(w))
	if len(items) == 1 {
		for s := range items[0].has {
			l[s] = 1
		}
	}
	if len(items) < 2 {
		return l
	}
	row := items
	for range 14 {
		next := slices.Clone(items)
		for k := 0; k+1 < len(row); k += 2 {
			pair := element{row[k].weight + row[k+1].weight, map[int]int{}}
			for s, n := range row[k].has {
				pair.has[s] += n
			}
			for s, n := range row[k+1].has {
				pair.has[s] += n
			}
			next = append(next, pair)
		}
		sort.SliceStable(next, func(i, j int) bool { return next[i].weight < next[j].weight })
		row = next
	}
	for _, e := range row[:2*len(items)-2] {
		for s, n := range e.has {
			l[s] += n
		}
	}
	return l
}

// weights is weights of many kinds: of few numbers, so that many are alike, of all, and such as grow fast.
func weights(throw func(int) int, n int) []int {
	w := make([]int, n)
	kind := throw(4)
	for i := range w {
		switch kind {
		case 0:
			w[i] = throw(4)
		case 1:
			w[i] = throw(heaviest + 1)
		case 2:
			w[i] = 1 << throw(31)
		default:
			w[i] = throw(1 << throw(20))
		}
	}
	return w
}

func TestByTheWords(t *testing.T) {
	throw := sample.Dice(1)
	for n := range 60 {
		for range 8 {
			w := weights(throw, n)
			wantLengths(t, w, slow(w))
		}
	}
	for range 6 {
		w := weights(throw, 300+throw(21))
		wantLengths(t, w, slow(w))
	}
	for n := 2; n <= 44; n++ {
		wantLengths(t, fibonacci(n), slow(fibonacci(n)))
	}
}

// 7.2

func TestCost(t *testing.T) {
	for _, x := range []struct {
		w, l []int
		cost int
		ok   bool
	}{
		{nil, nil, 0, true},
		{[]int{1, 1, 2}, []int{2, 2, 1}, 6, true},
		{[]int{7, 0, 2}, []int{15, 3, 0}, 105, true},
		{[]int{heaviest}, []int{15}, 15 << 30, true},
		{repeated(heaviest, 320), repeated(15, 320), 320 * 15 << 30, true},
		{repeated(1, 321), repeated(1, 321), 0, false},
		{[]int{1, 2}, []int{1}, 0, false},
		{[]int{1}, []int{1, 2}, 0, false},
		{nil, []int{0}, 0, false},
		{[]int{0}, nil, 0, false},
		{[]int{1, -1}, []int{1, 1}, 0, false},
		{[]int{1, -1}, []int{1, 0}, 0, false},
		{[]int{1, heaviest + 1}, []int{1, 0}, 0, false},
		{[]int{1, math.MinInt}, []int{1, 1}, 0, false},
		{[]int{1, 1}, []int{1, 16}, 0, false},
		{[]int{1, 0}, []int{1, 16}, 0, false},
		{[]int{1, 0}, []int{1, -1}, 0, false},
		{[]int{1, 1}, []int{1, math.MaxInt}, 0, false},
	} {
		if cost, ok := weigh.Cost(x.w, x.l); cost != x.cost || ok != x.ok {
			t.Errorf("Cost(%d, %d): %d %t, not %d %t", x.w, x.l, cost, ok, x.cost, x.ok)
		}
	}
}

func TestCount(t *testing.T) {
	want := make([]int, 256)
	if got := weigh.Count(nil); !slices.Equal(got, want) {
		t.Errorf("of none: %d", got)
	}
	want['a'], want['b'], want[0], want[255] = 3, 1, 2, 1
	b := []byte("\x00abaa\xff\x00")
	if got := weigh.Count(b); !slices.Equal(got, want) {
		t.Errorf("of %q: %d", b, got)
	}
	if string(b) != "\x00abaa\xff\x00" {
		t.Errorf("changed: %q", b)
	}
	weigh.Count(nil)[5] = 1
	if weigh.Count(nil)[5] != 0 {
		t.Error("the answer isn't new memory")
	}
}

func TestFull(t *testing.T) {
	deep := []int{1, 2, 3, 4, 5, 6, 7, 8, 9, 10, 11, 12, 13, 14, 15, 15}
	for _, x := range []struct {
		what string
		l    []int
		want bool
	}{
		{"none", nil, false},
		{"0 alone", []int{0}, false},
		{"1 alone", []int{1}, false},
		{"two of 1", []int{1, 1}, true},
		{"two of 1, and others", []int{0, 1, 0, 0, 1}, true},
		{"three of 1", []int{1, 1, 1}, false},
		{"the example", []int{2, 2, 1}, true},
		{"too many", []int{2, 2, 1, 15}, false},
		{"too few", []int{2, 2, 2}, false},
		{"the deepest", deep, true},
		{"one too few of the deepest", deep[:15], false},
		{"one of 16", []int{1, 2, 3, 4, 5, 6, 7, 8, 9, 10, 11, 12, 13, 14, 15, 16, 16}, false},
		{"two of 1, and one of 16", []int{1, 1, 16}, false},
		{"two of 1, and one below 0", []int{1, -1, 1}, false},
		{"two of 1, and the greatest number", []int{1, 1, math.MaxInt}, false},
		{"two of 1, and the least number", []int{1, 1, math.MinInt}, false},
		{"256 of 8", repeated(8, 256), true},
		{"256 of 8 in 320", append(repeated(8, 256), repeated(0, 64)...), true},
		{"256 of 8 in 321", append(repeated(8, 256), repeated(0, 65)...), false},
		{"320", append(repeated(9, 128), repeated(8, 192)...), true},
	} {
		if got := weigh.Full(x.l); got != x.want {
			t.Errorf("%s: %t", x.what, got)
		}
	}
}

func TestLongest(t *testing.T) {
	for _, x := range []struct {
		l    []int
		want int
	}{{nil, 0}, {[]int{}, 0}, {[]int{0, 0}, 0}, {[]int{3, 9, 4}, 9}, {[]int{7}, 7}, {[]int{16, 2}, 16}, {[]int{-3, -1, -2}, -1}, {[]int{1, math.MaxInt}, math.MaxInt}, {append(repeated(2, 1000), 3), 3}} {
		if got := weigh.Longest(x.l); got != x.want {
			t.Errorf("Longest(%d): %d", x.l, got)
		}
	}
}

// 7.3

// least is the least cost of full lengths up to 15 of weights that all are above 0, gone through depth by depth: how many codes end there is tried out.
func least(w []int) int {
	rest := slices.Clone(w)
	sort.Sort(sort.Reverse(sort.IntSlice(rest)))
	type state struct{ depth, open, placed int }
	known := map[state]int{}
	var find func(state) int
	find = func(s state) int {
		if s.placed == len(rest) {
			if s.open == 0 {
				return 0
			}
			return math.MaxInt / 2
		}
		if s.depth > 15 || s.open == 0 || s.open > len(rest)-s.placed {
			return math.MaxInt / 2
		}
		if cost, ok := known[s]; ok {
			return cost
		}
		deeper := 0
		for _, weight := range rest[s.placed:] {
			deeper += weight
		}
		best := math.MaxInt / 2
		for ends := 0; ends <= s.open; ends++ {
			left := 0
			for _, weight := range rest[s.placed+ends:] {
				left += weight
			}
			best = min(best, left+find(state{s.depth + 1, 2 * (s.open - ends), s.placed + ends}))
		}
		known[s] = best
		return best
	}
	total := 0
	for _, weight := range rest {
		total += weight
	}
	return total + find(state{1, 2, 0})
}

func TestWhatFollows(t *testing.T) {
	throw := sample.Dice(9)
	for n := 2; n <= 40; n++ {
		lists := [][]int{fibonacci(n), weights(throw, n), weights(throw, n), weights(throw, n)}
		for _, w := range lists {
			for i := range w {
				w[i] = max(w[i], 1)
			}
			l := lengths(t, w)
			if !weigh.Full(l) {
				t.Errorf("Lengths(%d): %d leaves something over", w, l)
			}
			for i := range w {
				for j := range w {
					if w[i] > w[j] && l[i] > l[j] {
						t.Errorf("Lengths(%d): %d, a heavier one is longer", w, l)
					}
				}
			}
			if cost, ok := weigh.Cost(w, l); !ok || cost != least(w) {
				t.Errorf("Lengths(%d): %d costs %d, not %d", w, l, cost, least(w))
			}
		}
	}
}
