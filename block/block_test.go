package block_test

import (
	"math"
	"slices"
	"strings"
	"testing"

	"bindle/api"
	"bindle/bits"
	"bindle/block"
	"bindle/canon"
	"bindle/runs"
	"bindle/sample"
	"bindle/symbol"
	"bindle/tokens"
	"bindle/weigh"
)

type token = api.Token

const window = 32768

// counts is n weights or lengths, of which those at some places aren't 0.
func counts(n int, at map[int]int) []int {
	l := make([]int, n)
	for place, x := range at {
		l[place] = x
	}
	return l
}

// table is the bits of a table, as 0 and 1.
func table(t *testing.T, l []int) string {
	t.Helper()
	var w bits.Writer
	if e := runs.Put(&w, l); e != api.OK {
		t.Fatalf("a table of %d: %d", l, e)
	}
	return sample.Written(&w)
}

// codes is the code of each symbol, the highest bit first; nothing of those without.
func codes(t *testing.T, l []int) []string {
	t.Helper()
	values, e := canon.Values(l)
	if e != api.OK {
		t.Fatalf("codes of %d: %d", l, e)
	}
	all := make([]string, len(l))
	for s, n := range l {
		for k := n - 1; k >= 0; k-- {
			all[s] += string(rune('0' + values[s]>>k&1))
		}
	}
	return all
}

// text is the bits of tokens and of the end by these lengths, as 0 and 1, by the chapter's words.
func text(t *testing.T, first, second []int, l []token) string {
	t.Helper()
	firsts, seconds := codes(t, first), codes(t, second)
	var s strings.Builder
	s.WriteString(table(t, first) + table(t, second))
	for _, x := range l {
		row, ok := symbol.Split(x)
		if !ok {
			t.Fatalf("%v is none", x)
		}
		s.WriteString(firsts[row.First.Number] + sample.Number(int(row.First.Extra), row.First.Bits))
		if row.Match {
			s.WriteString(seconds[row.Second.Number] + sample.Number(int(row.Second.Extra), row.Second.Bits))
		}
	}
	s.WriteString(firsts[256])
	return s.String()
}

// slowWeights is the weights by the chapter's words.
func slowWeights(l []token) (first, second []int) {
	first, second = make([]int, 273), make([]int, 30)
	first[256] = 1
	alone := 1
	for _, x := range l {
		row, _ := symbol.Split(x)
		first[row.First.Number]++
		if row.Match {
			second[row.Second.Number]++
			alone = 0
		}
	}
	second[0] += alone
	return first, second
}

func lengths(t *testing.T, w []int) []int {
	t.Helper()
	l, e := weigh.Lengths(w)
	if e != api.OK {
		t.Fatalf("lengths of %d: %d", w, e)
	}
	return l
}

// slow is the block's bits by the chapter's words, as 0 and 1.
func slow(t *testing.T, l []token) string {
	t.Helper()
	first, second := slowWeights(l)
	return text(t, lengths(t, first), lengths(t, second), l)
}

func wantTake(t *testing.T, what, bits string, most int, want []token, e api.Errno) {
	t.Helper()
	if got, ge := block.Take(sample.Bits(bits), most); !slices.Equal(got, want) || ge != e {
		t.Errorf("%s: Take: %.200v %d, not %.200v %d", what, got, ge, want, e)
	}
}

// some is tokens of all kinds, each of which may follow those ahead, and how many bytes they are.
func some(throw func(int) int, n int) (l []token, size int) {
	kinds := 1 + throw(1+throw(256))
	for range n {
		x := token{Byte: byte(throw(kinds))}
		if size > 0 && throw(3) == 0 {
			x = token{Len: 3 + throw(1+throw(256)), Dist: 1 + throw(min(size, window))}
		}
		l = append(l, x)
		size += max(x.Len, 1)
	}
	return l, size
}

// 13.1

func TestWeights(t *testing.T) {
	for _, x := range []struct {
		what          string
		l             []token
		first, second map[int]int
	}{
		{"none", nil, map[int]int{256: 1}, map[int]int{0: 1}},
		{"bytes", sample.Tokens("abaa\x00\xff"), map[int]int{0: 1, 'a': 3, 'b': 1, 255: 1, 256: 1}, map[int]int{0: 1}},
		{"a match", append(sample.Tokens("a"), token{Len: 3, Dist: 1}), map[int]int{'a': 1, 256: 1, 257: 1}, map[int]int{0: 1}},
		{"a match, farther off", append(sample.Tokens("ab"), token{Len: 4, Dist: 2}), map[int]int{'a': 1, 'b': 1, 256: 1, 258: 1}, map[int]int{1: 1}},
		{"the longest and farthest one, twice", []token{{Len: 258, Dist: window}, {Len: 258, Dist: window}}, map[int]int{256: 1, 272: 2}, map[int]int{29: 2}},
		{"one class of two", []token{{Len: 7, Dist: 5}, {Len: 8, Dist: 6}}, map[int]int{256: 1, 261: 2}, map[int]int{4: 2}},
		{"as many as there may be", slices.Repeat(sample.Tokens("a"), 65536), map[int]int{'a': 65536, 256: 1}, map[int]int{0: 1}},
	} {
		first, second, ok := block.Weights(x.l)
		if !ok || !slices.Equal(first, counts(273, x.first)) || !slices.Equal(second, counts(30, x.second)) {
			t.Errorf("%s: %d %d %t", x.what, first, second, ok)
		}
	}
}

// refused are tokens of which there is no block.
func refused() map[string][]token {
	return map[string][]token{
		"none, alone":         {{Len: 2, Dist: 1}},
		"none, the first one": append([]token{{Dist: 1}}, sample.Tokens("ab")...),
		"none, the last one":  append(sample.Tokens("ab"), token{Len: 259, Dist: 1}),
		"a match without":     append(sample.Tokens("ab"), token{Len: 3}),
		"a match too far off": append(sample.Tokens("ab"), token{Len: 3, Dist: window + 1}),
		"a match with a byte": append(sample.Tokens("ab"), token{Byte: 1, Len: 3, Dist: 1}),
		"great numbers":       {{Len: math.MaxInt, Dist: math.MaxInt}},
		"small numbers":       {{Len: math.MinInt, Dist: math.MinInt}},
		"65,537":              slices.Repeat(sample.Tokens("a"), 65537),
		"100,000, one none":   append(slices.Repeat(sample.Tokens("a"), 100000), token{Len: 1}),
	}
}

func TestRefused(t *testing.T) {
	for what, l := range refused() {
		if first, second, ok := block.Weights(l); len(first) != 0 || len(second) != 0 || ok {
			t.Errorf("%s: Weights: %d %d %t", what, first, second, ok)
		}
		var w bits.Writer
		w.Put(5, 3)
		if e := block.Put(&w, l); e != api.ErrForm || sample.Written(&w) != "101" {
			t.Errorf("%s: Put: %d, %d bits", what, e, w.Len())
		}
		if n, ok := block.Bits(l); n != 0 || ok {
			t.Errorf("%s: Bits: %d %t", what, n, ok)
		}
		if e := block.Put(nil, l); e != api.ErrArg {
			t.Errorf("%s: Put into nothing: %d", what, e)
		}
	}
	for _, l := range [][]token{nil, sample.Tokens("a")} {
		if e := block.Put(nil, l); e != api.ErrArg {
			t.Errorf("Put into nothing: %d", e)
		}
	}
}

func TestNothingIsKept(t *testing.T) {
	l := append(sample.Tokens("ab"), token{Len: 3, Dist: 2})
	kept := slices.Clone(l)
	first, second, _ := block.Weights(l)
	first[97], second[1] = 99, 99
	if again, other, _ := block.Weights(l); again[97] != 1 || other[1] != 1 {
		t.Error("the answer isn't new memory")
	}
	var w bits.Writer
	block.Put(&w, l)
	block.Bits(l)
	if !slices.Equal(l, kept) {
		t.Errorf("changed: %v", l)
	}
}

// Of no tokens the first table says that 256 is alone, the second one that 0 is.
func TestPutOfNoneByHand(t *testing.T) {
	first := table(t, counts(273, map[int]int{256: 1}))
	second := table(t, counts(30, map[int]int{0: 1}))
	var w bits.Writer
	w.Put(1, 2)
	if e := block.Put(&w, nil); e != api.OK || sample.Written(&w) != "10"+first+second+"0" {
		t.Errorf("%d %s, not %s", e, sample.Written(&w), "10"+first+second+"0")
	}
	if n, ok := block.Bits(nil); n != len(first)+len(second)+1 || !ok {
		t.Errorf("%d bits, %t", n, ok)
	}
	wantTake(t, "of no tokens", first+second+"0", 0, nil, api.OK)
}

// The symbols are a, 256 and 259, with the codes 10, 11 and 0, and of the second alphabet 6, with the code 0, and behind it two bits of 9.
func TestPutByHand(t *testing.T) {
	l := append(sample.Tokens("a"), token{Len: 5, Dist: 10}, token{Len: 5, Dist: 10})
	first := table(t, counts(273, map[int]int{'a': 2, 256: 2, 259: 1}))
	second := table(t, counts(30, map[int]int{6: 1}))
	want := first + second + "10" + "0" + "010" + "0" + "010" + "11"
	var w bits.Writer
	if e := block.Put(&w, l); e != api.OK || sample.Written(&w) != want {
		t.Errorf("%d %s, not %s", e, sample.Written(&w), want)
	}
	// There aren't ten bytes ahead: what is put isn't asked for that, what is taken is.
	wantTake(t, "too far off", want, 1000, nil, api.ErrForm)
}

func TestPutByTheWords(t *testing.T) {
	throw := sample.Dice(1)
	for n := range 60 {
		l, size := some(throw, n*n/3)
		want := slow(t, l)
		var w bits.Writer
		if e := block.Put(&w, l); e != api.OK || sample.Written(&w) != want {
			t.Fatalf("Put of %d tokens: %d, other bits", len(l), e)
		}
		if n, ok := block.Bits(l); n != len(want) || !ok {
			t.Fatalf("Bits of %d tokens: %d %t, not %d", len(l), n, ok, len(want))
		}
		wantTake(t, "by the words", want, size, l, api.OK)
	}
}

// 13.2

func TestTakeNil(t *testing.T) {
	if l, e := block.Take(nil, 100); len(l) != 0 || e != api.ErrArg {
		t.Errorf("%v %d", l, e)
	}
}

func TestTakeGoesOn(t *testing.T) {
	l := append(sample.Tokens("abcd"), token{Len: 7, Dist: 4}, token{Len: 258, Dist: 11}, token{Byte: 9})
	r := sample.Bits(slow(t, l) + "0110")
	if got, e := block.Take(r, 1000); !slices.Equal(got, l) || e != api.OK || sample.Text(r) != "0110" {
		t.Errorf("%v %d, %s left", got, e, sample.Text(r))
	}
}

func TestTakeTooShort(t *testing.T) {
	l := append(sample.Tokens("abcde"), token{Len: 40, Dist: 5}, token{Len: 3, Dist: 40}, token{Byte: 'x'})
	s := slow(t, l)
	for n := range len(s) {
		wantTake(t, "too short", s[:n], 1000, nil, api.ErrEnd)
	}
}

// other is lengths of a code of so many symbols that isn't that of the best lengths.
func other(n int) []int {
	l := make([]int, n)
	for s := range 2*n - 512 {
		l[s] = 9
	}
	for s := max(0, 2*n-512); s < n; s++ {
		l[s] = 8
	}
	return l
}

// What is taken may have other lengths than Put gives.
func TestTakeOfOtherLengths(t *testing.T) {
	second := append(slices.Repeat([]int{5}, 28), 4, 4)
	throw := sample.Dice(2)
	for range 20 {
		l, size := some(throw, 50)
		wantTake(t, "of other lengths", text(t, other(273), second, l), size, l, api.OK)
	}
}

func TestTakeTables(t *testing.T) {
	right, second := counts(273, map[int]int{256: 1}), counts(30, map[int]int{0: 1})
	tooFew := counts(273, map[int]int{97: 2, 256: 2})
	tooMany := counts(30, map[int]int{0: 1, 1: 1, 2: 1})
	noSize := sample.Number(0, 9)
	noCode := sample.Number(30, 9) + strings.Repeat("0", 19*4)
	again := sample.Number(30, 9) + strings.Repeat("0000", 16) + "1000" + "0000" + "0000" + "0" + "00"
	for _, x := range []struct {
		what          string
		first, second string
		want          api.Errno
	}{
		{"fine", table(t, right), table(t, second), api.OK},
		{"no first table", "", "", api.ErrEnd},
		{"no lengths first", noSize, table(t, second), api.ErrSize},
		{"no code first", noCode, noSize, api.ErrCodes},
		{"again first", again, noSize, api.ErrForm},
		{"no lengths second", table(t, right), noSize, api.ErrSize},
		{"no code second", table(t, right), noCode, api.ErrCodes},
		{"again second", table(t, right), again, api.ErrForm},
		{"272", table(t, right[1:]), table(t, second), api.ErrForm},
		{"274", table(t, append([]int{0}, right...)), table(t, second), api.ErrForm},
		{"29", table(t, right), table(t, second[:29]), api.ErrForm},
		{"31", table(t, right), table(t, append(second, 0)), api.ErrForm},
		{"the one for the other", table(t, second), table(t, right), api.ErrForm},
		{"272, and no lengths second", table(t, right[1:]), noSize, api.ErrSize},
		{"272, and no code second", table(t, right[1:]), noCode, api.ErrCodes},
		{"272, and lengths that may not be", table(t, right[1:]), table(t, tooMany), api.ErrForm},
		{"lengths that may not be, and 29", table(t, tooFew), table(t, second[:29]), api.ErrForm},
		{"lengths that may not be, and no lengths second", table(t, tooFew), noSize, api.ErrSize},
		{"lengths that may not be, first", table(t, tooFew), table(t, second), api.ErrCodes},
		{"lengths that may not be, second", table(t, right), table(t, tooMany), api.ErrCodes},
		{"lengths that may not be, both", table(t, tooFew), table(t, tooMany), api.ErrCodes},
		{"lengths of 0, first", table(t, counts(273, nil)), table(t, second), api.ErrCodes},
		{"lengths of 0, second", table(t, right), table(t, counts(30, nil)), api.ErrCodes},
		{"one length of 2, second", table(t, right), table(t, counts(30, map[int]int{5: 2})), api.ErrCodes},
	} {
		behind := "0"
		if x.first == "" {
			behind = ""
		}
		wantTake(t, x.what, x.first+x.second+behind, 100, nil, x.want)
	}
	wantTake(t, "272, and a second table that isn't all there", table(t, right[1:])+table(t, second)[:20], 100, nil, api.ErrEnd)
	wantTake(t, "lengths that may not be, and a second table that isn't all there", table(t, tooFew)+table(t, second)[:20], 100, nil, api.ErrEnd)
}

func TestTakeCodes(t *testing.T) {
	alone, second := counts(273, map[int]int{256: 1}), counts(30, map[int]int{3: 1})
	wantTake(t, "no code of 256 alone", table(t, alone)+table(t, second)+"1", 100, nil, api.ErrCodes)
	wantTake(t, "no end", table(t, alone)+table(t, second), 100, nil, api.ErrEnd)

	// a: 10, 256: 11, 257: 0; of the second alphabet 3: 0
	s := table(t, counts(273, map[int]int{'a': 2, 256: 2, 257: 1})) + table(t, second)
	four := sample.Tokens("aaaa")
	wantTake(t, "fine", s+"10101010"+"00"+"11", 100, append(slices.Clone(four), token{Len: 3, Dist: 4}), api.OK)
	wantTake(t, "no code of the second alphabet", s+"10101010"+"01"+"11", 100, nil, api.ErrCodes)
	wantTake(t, "no bits of the second alphabet", s+"10101010"+"0", 100, nil, api.ErrEnd)
	wantTake(t, "half a code", s+"10101010"+"1", 100, nil, api.ErrEnd)
	wantTake(t, "no code behind too many", s+"10101010"+"01", 3, nil, api.ErrSize)

	// Of 97 alone there is no end: bytes are taken till there are too many, or no bits.
	bytes := table(t, counts(273, map[int]int{97: 1})) + table(t, second)
	wantTake(t, "no end of bytes", bytes+"0000", 4, nil, api.ErrEnd)
	wantTake(t, "too many bytes", bytes+"0000", 3, nil, api.ErrSize)
	wantTake(t, "no code of a byte", bytes+"0001", 4, nil, api.ErrCodes)
}

func TestTakeBitsBehind(t *testing.T) {
	// a: 10, 256: 11, 272: 0, with 6 bits; of the second alphabet 4: 0 and 5: 1, with 1 bit
	s := table(t, counts(273, map[int]int{'a': 2, 256: 2, 272: 1})) + table(t, counts(30, map[int]int{4: 1, 5: 1}))
	s += strings.Repeat("10", 8)
	match := "0" + sample.Number(63, 6) + "1" + "1"
	eight := sample.Tokens("aaaaaaaa")
	wantTake(t, "fine", s+match+"11", 1000, append(slices.Clone(eight), token{Len: 258, Dist: 8}), api.OK)
	for n := range len(match) {
		wantTake(t, "bits that aren't all there", s+match[:n], 1000, nil, api.ErrEnd)
	}
	wantTake(t, "the least ones", s+"0"+sample.Number(0, 6)+"0"+"0"+"11", 1000, append(slices.Clone(eight), token{Len: 195, Dist: 5}), api.OK)
}

func TestTakeDistAndSize(t *testing.T) {
	a := token{Byte: 'a'}
	five := token{Len: 5, Dist: 2}
	for _, x := range []struct {
		what string
		l    []token
		most int
		want api.Errno
	}{
		{"no tokens, no bytes", nil, 0, api.OK},
		{"no tokens, fewer than no bytes", nil, -1, api.OK},
		{"no tokens, the least number", nil, math.MinInt, api.OK},
		{"a byte", []token{a}, 1, api.OK},
		{"a byte too many", []token{a}, 0, api.ErrSize},
		{"a byte, and fewer than none", []token{a}, -1, api.ErrSize},
		{"a byte, and the least number", []token{a}, math.MinInt, api.ErrSize},
		{"a byte, and the greatest number", []token{a}, math.MaxInt, api.OK},
		{"as many as there may be", []token{a, a, five, a}, 8, api.OK},
		{"one more than there may be", []token{a, a, five, a}, 7, api.ErrSize},
		{"a match as long as it may be", []token{a, a, five}, 7, api.OK},
		{"a match one longer than it may be", []token{a, a, five}, 6, api.ErrSize},
		{"a match much longer than it may be", []token{a, a, {Len: 258, Dist: 2}}, 2, api.ErrSize},
		{"as far off as it may be", []token{a, a, five, {Len: 3, Dist: 7}}, 100, api.OK},
		{"one farther off than it may be", []token{a, a, five, {Len: 3, Dist: 8}}, 100, api.ErrForm},
		{"no bytes ahead", []token{{Len: 3, Dist: 1}}, 100, api.ErrForm},
		{"too far off, and too long", []token{a, five}, 1, api.ErrForm},
		{"too far off, and fewer than none", []token{{Len: 3, Dist: 1}}, -1, api.ErrForm},
		{"too long, and too far off behind", []token{a, a, five, {Len: 3, Dist: 100}}, 6, api.ErrSize},
		{"too far off, and too long behind", []token{a, five, a}, 2, api.ErrForm},
	} {
		want := x.l
		if x.want != api.OK {
			want = nil
		}
		wantTake(t, x.what, slow(t, x.l), x.most, want, x.want)
	}
}

// What is taken isn't bound to as many tokens as what is put: its bytes bound it.
func TestTakeOfMore(t *testing.T) {
	s := table(t, counts(273, map[int]int{'a': 1, 256: 1})) + table(t, counts(30, map[int]int{0: 1})) + strings.Repeat("0", 65537) + "1"
	l, e := block.Take(sample.Bits(s), 65537)
	if e != api.OK || len(l) != 65537 {
		t.Errorf("%d tokens, %d", len(l), e)
	}
	wantTake(t, "one too many", s, 65536, nil, api.ErrSize)
}

// 13.3

func TestWhatIsPutIsTaken(t *testing.T) {
	throw := sample.Dice(3)
	for ahead := range 40 {
		l, size := some(throw, throw(1+100*ahead))
		var w bits.Writer
		w.Put(0xdeadbeef, ahead)
		if e := block.Put(&w, l); e != api.OK {
			t.Fatal(e)
		}
		w.Put(0xffffffff, 9)
		r := bits.New(w.Bytes())
		r.Skip(min(ahead, 32))
		if got, e := block.Take(r, size); !slices.Equal(got, l) || e != api.OK || r.At() != w.Len()-9 {
			t.Fatalf("%d tokens: %d, %d, at %d of %d", len(l), len(got), e, r.At(), w.Len())
		}
	}
}

func TestWhole(t *testing.T) {
	throw := sample.Dice(4)
	for level := range 4 {
		b := sample.Bytes(65536, uint32(level))
		for i := range b {
			b[i] %= byte(1 + throw(1+level*level))
		}
		l := tokens.Split(b, level)
		var w bits.Writer
		if e := block.Put(&w, l); e != api.OK {
			t.Fatal(e)
		}
		if got, e := block.Take(bits.New(w.Bytes()), len(b)); !slices.Equal(got, l) || e != api.OK {
			t.Errorf("level %d: %d tokens, %d", level, len(got), e)
		}
	}
	all := slices.Repeat(sample.Tokens("ab"), 32768)
	var w bits.Writer
	if e := block.Put(&w, all); e != api.OK {
		t.Fatal(e)
	}
	if got, e := block.Take(bits.New(w.Bytes()), 65536); !slices.Equal(got, all) || e != api.OK {
		t.Errorf("%d tokens, %d", len(got), e)
	}
}

// Whatever the bits are, what is taken are tokens of at most so many bytes, or there is an error.
func TestTakeOfAnything(t *testing.T) {
	throw := sample.Dice(5)
	for range 3000 {
		l, size := some(throw, throw(80))
		b := []byte(slow(t, l))
		for range 1 + throw(3) {
			b[throw(len(b))] ^= 1
		}
		most := size + throw(9) - 4
		got, e := block.Take(sample.Bits(string(b[:len(b)-throw(2)*throw(len(b))])), most)
		if e != api.OK && len(got) != 0 {
			t.Fatalf("%v %d", got, e)
		}
		if _, ee := tokens.Expand(got, most); ee != api.OK {
			t.Fatalf("%v of at most %d bytes: %d", got, most, ee)
		}
	}
}
