package scan_test

import (
	"bytes"
	"fmt"
	"math"
	"slices"
	"testing"

	"bindle/api"
	"bindle/crc"
	"bindle/record"
	"bindle/sample"
	"bindle/scan"
)

func waste(rows []record.Record) int {
	n := 0
	for _, r := range rows {
		if !slices.Contains(sample.Live(rows), r.Member) {
			n += r.Next - r.Member.At
		}
	}
	return n
}

func each(c *crc.Table, b []byte, end int) []record.Record {
	var rows []record.Record
	for i, r := range scan.Each(c, b, end) {
		if i != len(rows) {
			panic("not numbered from 0 on")
		}
		rows = append(rows, r)
	}
	return rows
}

// wantAll holds what a scan finds up to an end behind some records.
func wantAll(t *testing.T, x *sample.Laid, b []byte, end int, rows []record.Record) {
	t.Helper()
	if got := each(&x.C, b, end); !slices.Equal(got, rows) {
		t.Errorf("up to %d: Each: %v, not %v", end, got, rows)
	}
	if l, at, e := scan.Live(&x.C, b, end); !slices.Equal(l, sample.Live(rows)) || at != end || e != api.OK {
		t.Errorf("up to %d: Live: %v %d %d, not %v", end, l, at, e, sample.Live(rows))
	}
	gone := 0
	for _, r := range rows {
		gone += r.Kind - 1
	}
	if p, g, e := scan.Count(&x.C, b, end); p != len(rows)-gone || g != gone || e != api.OK {
		t.Errorf("up to %d: Count: %d %d %d", end, p, g, e)
	}
	if n, e := scan.Waste(&x.C, b, end); n != waste(rows) || e != api.OK {
		t.Errorf("up to %d: Waste: %d %d, not %d", end, n, e, waste(rows))
	}
}

// wantRefused holds what a scan is refused with, and which records are told ahead of that.
func wantRefused(t *testing.T, what string, x *sample.Laid, b []byte, end int, rows []record.Record, at int, e api.Errno) {
	t.Helper()
	if got := each(&x.C, b, end); !slices.Equal(got, rows) {
		t.Errorf("%s: Each: %v, not %v", what, got, rows)
	}
	if l, gotAt, ge := scan.Live(&x.C, b, end); len(l) != 0 || gotAt != at || ge != e {
		t.Errorf("%s: Live: %v %d %d, not %d %d", what, l, gotAt, ge, at, e)
	}
	if p, g, ge := scan.Count(&x.C, b, end); p != 0 || g != 0 || ge != e {
		t.Errorf("%s: Count: %d %d %d, not %d", what, p, g, ge, e)
	}
	if n, ge := scan.Waste(&x.C, b, end); n != 0 || ge != e {
		t.Errorf("%s: Waste: %d %d, not %d", what, n, ge, e)
	}
}

// 23.1

func TestUpToEachRecord(t *testing.T) {
	x := sample.Several()
	wantAll(t, x, x.B, 1024, nil)
	for i, r := range x.Rows {
		wantAll(t, x, x.B, r.Next, x.Rows[:i+1])
		wantAll(t, x, x.B[:r.Next], r.Next, x.Rows[:i+1])
		wantAll(t, x, append(bytes.Clone(x.B[:r.Next]), "something behind"...), r.Next, x.Rows[:i+1])
	}
	if l, _, _ := scan.Live(&x.C, x.B, len(x.B)); len(l) != 3 || l[0].Name != "a" || l[1].Name != "aa" || l[2].Name != "c" || l[0].Size != 250 {
		t.Errorf("by hand: %v", l)
	}
	if p, g, _ := scan.Count(&x.C, x.B, len(x.B)); p != 6 || g != 3 {
		t.Errorf("by hand: %d %d", p, g)
	}
}

func TestExample(t *testing.T) {
	x := sample.Lay()
	wantAll(t, x, x.B, 1024, nil)
}

func TestNoEnd(t *testing.T) {
	x := sample.Several()
	for _, end := range []int{math.MinInt, -1, 0, 1, 1023, len(x.B) + 1, len(x.B) + 2, math.MaxInt} {
		wantRefused(t, "no end", x, x.B, end, nil, 0, api.ErrArg)
	}
	for _, n := range []int{0, 1, 1023} {
		for _, end := range []int{n, 1024, 1025} {
			wantRefused(t, "too few bytes", x, x.B[:n], end, nil, 0, api.ErrArg)
		}
	}
}

// What goes beyond the end is refused with ErrSize, where it is there; else as its layer says.
func TestBeyondTheEnd(t *testing.T) {
	x := sample.Several()
	for i, r := range x.Rows {
		for end := r.Member.At + 1; end < r.Next; end++ {
			wantRefused(t, "beyond the end", x, x.B, end, x.Rows[:i], r.Member.At, api.ErrSize)
			wantRefused(t, "not all there", x, x.B[:end], end, x.Rows[:i], r.Member.At, api.ErrEnd)
		}
	}
}

func TestSpoilt(t *testing.T) {
	x := sample.Several()
	for i, r := range x.Rows {
		for at := r.Member.At; at < r.Member.At+8; at++ {
			spoilt := bytes.Clone(x.B)
			spoilt[at] ^= 0x20
			_, e := record.Take(&x.C, spoilt, r.Member.At)
			if e == api.OK {
				t.Fatal("not spoilt")
			}
			wantRefused(t, "spoilt", x, spoilt, len(spoilt), x.Rows[:i], r.Member.At, e)
			wantAll(t, x, spoilt, r.Member.At, x.Rows[:i])
		}
	}
	wantRefused(t, "none at the begin", x, make([]byte, 1200), 1200, nil, 1024, api.ErrForm)
	tail := append(bytes.Clone(x.B), "xyz"...)
	wantRefused(t, "three others behind", x, tail, len(tail), x.Rows, len(x.B), api.ErrEnd)
}

func TestLimit(t *testing.T) {
	x := sample.Lay()
	for i := range 200 {
		x.Put(fmt.Sprintf("n%03d", 199-i), "x")
	}
	wantAll(t, x, x.B, len(x.B), x.Rows)
	x.Put("n007", "yy")
	wantAll(t, x, x.B, len(x.B), x.Rows)
	x.Put("o", "")
	at := len(x.B)
	if l, gotAt, e := scan.Live(&x.C, x.B, at); len(l) != 0 || gotAt != at || e != api.ErrLimit {
		t.Errorf("of 201: Live: %v %d %d", l, gotAt, e)
	}
	if n, e := scan.Waste(&x.C, x.B, at); n != 0 || e != api.ErrLimit {
		t.Errorf("of 201: Waste: %d %d", n, e)
	}
	if p, g, e := scan.Count(&x.C, x.B, at); p != 202 || g != 0 || e != api.OK {
		t.Errorf("of 201: Count: %d %d %d", p, g, e)
	}
	if got := each(&x.C, x.B, at); !slices.Equal(got, x.Rows) {
		t.Error("of 201: Each")
	}
	tail := append(bytes.Clone(x.B), 'x')
	if _, gotAt, e := scan.Live(&x.C, tail, at+1); gotAt != at || e != api.ErrEnd {
		t.Errorf("of 201, and what is none: %d %d", gotAt, e)
	}
	x.Gone("n100")
	wantAll(t, x, x.B, len(x.B), x.Rows)
}

func TestEachIsLeft(t *testing.T) {
	x := sample.Several()
	for n := range x.Rows {
		told := 0
		for range scan.Each(&x.C, x.B, len(x.B)) {
			told++
			if told > n {
				break
			}
		}
		if told != n+1 {
			t.Errorf("left behind %d: %d told", n+1, told)
		}
	}
}

// An iterator tells the same each time, whatever is done with the bytes since.
func TestEachKeepsNothingThatIsHandedIn(t *testing.T) {
	x := sample.Several()
	all := scan.Each(&x.C, x.B, len(x.B))
	clear(x.B)
	for range 2 {
		var rows []record.Record
		for _, r := range all {
			rows = append(rows, r)
		}
		if !slices.Equal(rows, x.Rows) {
			t.Errorf("%v, not %v", rows, x.Rows)
		}
	}
}

func TestNothingIsChanged(t *testing.T) {
	x := sample.Several()
	kept := bytes.Clone(x.B)
	l, _, _ := scan.Live(&x.C, x.B, len(x.B))
	scan.Count(&x.C, x.B, len(x.B))
	scan.Waste(&x.C, x.B, len(x.B))
	each(&x.C, x.B, len(x.B))
	if !bytes.Equal(kept, x.B) || x.C != crc.Make() {
		t.Error("changed")
	}
	clear(x.B)
	if !slices.Equal(l, sample.Live(x.Rows)) {
		t.Error("the answer isn't new memory")
	}
}

// 23.2

func TestApply(t *testing.T) {
	m := func(name string, at int) api.Member { return api.Member{Name: name, At: at, Size: 7} }
	b, d := m("b", 1), m("d", 2)
	row := func(kind int, name string) record.Record {
		return record.Record{Kind: kind, Member: m(name, 9), Next: 99}
	}
	for _, x := range []struct {
		l    []api.Member
		r    record.Record
		want []api.Member
	}{
		{nil, row(record.Live, "c"), []api.Member{m("c", 9)}},
		{nil, row(record.Gone, "c"), nil},
		{[]api.Member{b, d}, row(record.Live, "a"), []api.Member{m("a", 9), b, d}},
		{[]api.Member{b, d}, row(record.Live, "c"), []api.Member{b, m("c", 9), d}},
		{[]api.Member{b, d}, row(record.Live, "da"), []api.Member{b, d, m("da", 9)}},
		{[]api.Member{b, d}, row(record.Live, "b"), []api.Member{m("b", 9), d}},
		{[]api.Member{b, d}, row(record.Live, "d"), []api.Member{b, m("d", 9)}},
		{[]api.Member{b, d}, row(record.Gone, "b"), []api.Member{d}},
		{[]api.Member{b, d}, row(record.Gone, "d"), []api.Member{b}},
		{[]api.Member{b}, row(record.Gone, "b"), nil},
		{[]api.Member{b, d}, row(record.Gone, "c"), []api.Member{b, d}},
		{[]api.Member{b, d}, row(0, "b"), []api.Member{b, d}},
		{[]api.Member{b, d}, row(3, "c"), []api.Member{b, d}},
		{[]api.Member{b, d}, row(3, "b"), []api.Member{b, d}},
		{[]api.Member{b, d}, row(-1, "b"), []api.Member{b, d}},
		{[]api.Member{b, d}, row(math.MaxInt, "c"), []api.Member{b, d}},
	} {
		l := slices.Clone(x.l)
		l = append(l, m("spare", 1))[:len(l)]
		got := scan.Apply(l, x.r)
		if !slices.Equal(got, x.want) {
			t.Errorf("Apply(%v, %v): %v, not %v", x.l, x.r, got, x.want)
		}
		if !slices.Equal(l, x.l) || l[:len(l)+1][len(l)].Name != "spare" {
			t.Error("the list is changed")
		}
		for i := range got {
			got[i] = api.Member{}
		}
		if !slices.Equal(l, x.l) {
			t.Error("the answer isn't new memory")
		}
	}
}

// 23.3

func TestLiveIsAllApplied(t *testing.T) {
	dice := sample.Dice(23)
	for range 30 {
		x := sample.Lay()
		var l []api.Member
		for range 40 {
			x.Any(dice, 1)
			l = scan.Apply(l, x.Rows[len(x.Rows)-1])
			wantAll(t, x, x.B, len(x.B), x.Rows)
			if !slices.Equal(l, sample.Live(x.Rows)) {
				t.Fatalf("applied: %v, not %v", l, sample.Live(x.Rows))
			}
		}
		ahead := x.Rows[20].Member.At
		if !slices.Equal(each(&x.C, x.B, ahead), each(&x.C, x.B, len(x.B))[:20]) {
			t.Fatal("a scan that goes on doesn't begin alike")
		}
	}
}

// Of a nil table nothing is promised but that nothing panics.
func TestNilTable(t *testing.T) {
	x := sample.Several()
	each(nil, x.B, len(x.B))
	scan.Live(nil, x.B, len(x.B))
	scan.Count(nil, x.B, len(x.B))
	scan.Waste(nil, x.B, len(x.B))
}
