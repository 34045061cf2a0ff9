package reader

import (
	"bindle/api"
	"bindle/bits"
	"bindle/field"
	"bindle/quick"
	"bindle/runs"
	"bindle/symbol"
)

const (
	// countBytes is in how many bytes it stands how many a piece has.
	countBytes = 2
	aByte      = 8
	// width is that of the tables by which codes are taken: nearly all codes are no longer.
	width = 9
	// firstMatch is the symbol of the first alphabet that is class 0 of a match's Len.
	firstMatch = symbol.End + 1
)

// stored gives the area itself.
type stored struct {
	area []byte
}

func openStored(area []byte, size int) (source, api.Errno) {
	if len(area) != size {
		return nil, api.ErrSize
	}
	return stored{area}, api.OK
}

func (s stored) next(made []byte) ([]byte, api.Errno) {
	return append(made, s.area[len(made):]...), api.OK
}

// streamed gives the bytes of pieces.
type streamed struct {
	r    *field.Reader
	size int
}

func openStreamed(area []byte, size int) source {
	return streamed{field.New(area), size}
}

func (s streamed) next(made []byte) ([]byte, api.Errno) {
	piece := s.r.Bytes(int(s.r.Number(countBytes)))
	lack := s.size - len(made)
	switch {
	case !s.r.Ok():
		return made, api.ErrEnd
	case len(piece) > lack:
		return made, api.ErrSize
	case len(piece) > 0:
		return append(made, piece...), api.OK
	case s.r.Left() > 0:
		return made, api.ErrForm
	case lack > 0:
		return made, api.ErrSize
	}
	return made, api.OK
}

// packed gives the bytes of a block's tokens.
type packed struct {
	r               *bits.Reader
	firsts, seconds *quick.Table
	size            int
}

// openPacked takes both tables. Both are there before either is looked at: what one can't be is told behind what can't be taken.
func openPacked(area []byte, size int) (source, api.Errno) {
	r := bits.New(area)
	first, e := runs.Take(r)
	if e != api.OK {
		return nil, e
	}
	second, e := runs.Take(r)
	if e != api.OK {
		return nil, e
	}
	if len(first) != symbol.Firsts || len(second) != symbol.Seconds {
		return nil, api.ErrForm
	}
	firsts, e := quick.New(first, width)
	if e != api.OK {
		return nil, e
	}
	seconds, e := quick.New(second, width)
	if e != api.OK {
		return nil, e
	}
	return packed{r, firsts, seconds, size}, api.OK
}

func (p packed) next(made []byte) ([]byte, api.Errno) {
	row, e := p.takeRow()
	if e != api.OK {
		return made, e
	}
	if row.First.Number == symbol.End {
		return made, p.end(len(made))
	}
	t, right := symbol.Join(row)
	switch {
	case !right || t.Dist > len(made):
		return made, api.ErrForm
	case max(t.Len, 1) > p.size-len(made):
		return made, api.ErrSize
	case t.Len == 0:
		return append(made, t.Byte), api.OK
	}
	// A match's bytes may stand among those that it makes itself.
	for range t.Len {
		made = append(made, made[len(made)-t.Dist])
	}
	return made, api.OK
}

// takeRow takes a token's symbols, or the end.
func (p packed) takeRow() (symbol.Row, api.Errno) {
	first, e := p.takeClass(p.firsts, firstMatch)
	if e != api.OK || first.Number <= symbol.End {
		return symbol.Row{First: first}, e
	}
	second, e := p.takeClass(p.seconds, 0)
	return symbol.Row{First: first, Second: second, Match: true}, e
}

// takeClass takes a symbol of an alphabet, and the bits behind it. Symbols ahead of that which is class 0 have none.
func (p packed) takeClass(t *quick.Table, zero int) (symbol.Class, api.Errno) {
	s, e := t.Take(p.r)
	if e != api.OK {
		return symbol.Class{}, e
	}
	_, behind, _ := symbol.Base(s - zero)
	extra, there := p.r.Take(behind)
	if !there {
		return symbol.Class{}, api.ErrEnd
	}
	return symbol.Class{Number: s, Bits: behind, Extra: extra}, api.OK
}

// end is how the payload ends behind so many bytes.
func (p packed) end(n int) api.Errno {
	switch {
	case n < p.size:
		return api.ErrSize
	case p.r.Left() >= aByte || p.r.Peek(p.r.Left()) != 0:
		return api.ErrForm
	}
	return api.OK
}
