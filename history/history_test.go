package history_test

import (
	"bytes"
	"fmt"
	"math"
	"slices"
	"strings"
	"testing"

	"bindle/api"
	"bindle/crc"
	"bindle/history"
	"bindle/record"
	"bindle/sample"
	"bindle/scan"
)

// places is where the moments behind records are.
func places(rows []record.Record) []int {
	l := []int{1024}
	for _, r := range rows {
		l = append(l, r.Next)
	}
	return l
}

// of is the records of a name.
func of(rows []record.Record, name string) []record.Record {
	var l []record.Record
	for _, r := range rows {
		if r.Member.Name == name {
			l = append(l, r)
		}
	}
	return l
}

// changes is what is different between moments by the chapter's words: name by name, is it live at one of them?
func changes(rows []record.Record, from, to int) []history.Change {
	names := map[string]string{}
	for _, r := range rows {
		names[r.Member.Name] = ""
	}
	var l []history.Change
	for _, f := range sample.Files(names) {
		was, there := find(sample.Live(rows[:from]), f.Name)
		is, still := find(sample.Live(rows[:to]), f.Name)
		x := history.Change{Name: f.Name, From: was, To: is}
		switch {
		case !there && still:
			x.Kind = 1
		case there && !still:
			x.Kind = 2
		case was != is:
			x.Kind = 3
		default:
			continue
		}
		l = append(l, x)
	}
	return l
}

func find(l []api.Member, name string) (api.Member, bool) {
	for _, m := range l {
		if m.Name == name {
			return m, true
		}
	}
	return api.Member{}, false
}

func names() []string {
	return []string{"a", "aa", "b", "c", "d", "e", "", "a//", "A"}
}

// wantAll holds all that is told of bytes up to an end behind some records.
func wantAll(t *testing.T, x *sample.Laid, b []byte, end int, rows []record.Record) {
	t.Helper()
	if l, e := history.Moments(&x.C, b, end); !slices.Equal(l, places(rows)) || e != api.OK {
		t.Fatalf("up to %d: Moments: %v %d, not %v", end, l, e, places(rows))
	}
	for k := range len(rows) + 1 {
		if l, e := history.At(&x.C, b, end, k); !slices.Equal(l, sample.Live(rows[:k])) || e != api.OK {
			t.Fatalf("up to %d: At %d: %v %d, not %v", end, k, l, e, sample.Live(rows[:k]))
		}
	}
	for _, k := range []int{math.MinInt, -1, len(rows) + 1, math.MaxInt} {
		if l, e := history.At(&x.C, b, end, k); len(l) != 0 || e != api.ErrArg {
			t.Fatalf("up to %d: At %d: %v %d", end, k, l, e)
		}
		for _, other := range []int{0, len(rows)} {
			for _, pair := range [][2]int{{k, other}, {other, k}, {k, k}} {
				if l, e := history.Changes(&x.C, b, end, pair[0], pair[1]); len(l) != 0 || e != api.ErrArg {
					t.Fatalf("up to %d: Changes %v: %v %d", end, pair, l, e)
				}
			}
		}
	}
	for _, name := range names() {
		wantVersions(t, x, b, end, name, of(rows, name))
	}
}

// wantVersions holds the versions of a name.
func wantVersions(t *testing.T, x *sample.Laid, b []byte, end int, name string, want []record.Record) {
	t.Helper()
	if l, e := history.Versions(&x.C, b, end, name); !slices.Equal(l, want) || e != api.OK {
		t.Fatalf("up to %d: Versions of %q: %v %d, not %v", end, name, l, e, want)
	}
	if l := slices.Collect(history.Each(&x.C, b, end, name)); !slices.Equal(l, want) {
		t.Fatalf("up to %d: Each of %q: %v, not %v", end, name, l, want)
	}
	for v, r := range want {
		data, e := []byte(nil), api.ErrNotFound
		if r.Kind == record.Live {
			data, e = record.Data(&x.C, b, r.Member)
		}
		if got, ge := history.Data(&x.C, b, end, name, v); !bytes.Equal(got, data) || ge != e {
			t.Fatalf("up to %d: Data of %q, version %d: %q %d, not %q %d", end, name, v, got, ge, data, e)
		}
	}
	for _, v := range []int{math.MinInt, -1, len(want), len(want) + 1, math.MaxInt} {
		if got, e := history.Data(&x.C, b, end, name, v); len(got) != 0 || e != api.ErrNotFound {
			t.Fatalf("up to %d: Data of %q, version %d: %q %d", end, name, v, got, e)
		}
	}
}

// wantRefused holds that all is refused alike, and which records are told ahead of that.
func wantRefused(t *testing.T, what string, x *sample.Laid, b []byte, end int, rows []record.Record, e api.Errno) {
	t.Helper()
	if _, _, ge := scan.Count(&x.C, b, end); ge != e {
		t.Fatalf("%s: Count: %d, not %d", what, ge, e)
	}
	if l, ge := history.Moments(&x.C, b, end); len(l) != 0 || ge != e {
		t.Errorf("%s: Moments: %v %d, not %d", what, l, ge, e)
	}
	for _, k := range []int{-1, 0, 1, 99} {
		if l, ge := history.At(&x.C, b, end, k); len(l) != 0 || ge != e {
			t.Errorf("%s: At %d: %v %d, not %d", what, k, l, ge, e)
		}
		if l, ge := history.Changes(&x.C, b, end, k, 0); len(l) != 0 || ge != e {
			t.Errorf("%s: Changes from %d: %v %d, not %d", what, k, l, ge, e)
		}
		if l, ge := history.Data(&x.C, b, end, "a", k); len(l) != 0 || ge != e {
			t.Errorf("%s: Data of version %d: %q %d, not %d", what, k, l, ge, e)
		}
	}
	for _, name := range names() {
		if l, ge := history.Versions(&x.C, b, end, name); len(l) != 0 || ge != e {
			t.Errorf("%s: Versions of %q: %v %d, not %d", what, name, l, ge, e)
		}
		if l := slices.Collect(history.Each(&x.C, b, end, name)); !slices.Equal(l, of(rows, name)) {
			t.Errorf("%s: Each of %q: %v", what, name, l)
		}
	}
}

// 37.1 and 37.2

func TestExample(t *testing.T) {
	x := sample.Lay()
	x.Put("a", "x")
	x.Gone("a")
	for k, want := range []int{0, 1, 0} {
		if l, e := history.At(&x.C, x.B, len(x.B), k); len(l) != want || e != api.OK {
			t.Errorf("moment %d: %v %d", k, l, e)
		}
	}
	if l, e := history.Versions(&x.C, x.B, len(x.B), "a"); len(l) != 2 || e != api.OK {
		t.Errorf("%v %d", l, e)
	}
}

func TestKinds(t *testing.T) {
	if history.Added != 1 || history.Gone != 2 || history.Other != 3 {
		t.Error("other numbers")
	}
}

func TestUpToEachRecord(t *testing.T) {
	x := sample.Several()
	wantAll(t, x, x.B, 1024, nil)
	for i, r := range x.Rows {
		wantAll(t, x, x.B, r.Next, x.Rows[:i+1])
		wantAll(t, x, append(bytes.Clone(x.B[:r.Next]), "something behind"...), r.Next, x.Rows[:i+1])
	}
}

func TestByHand(t *testing.T) {
	x := sample.Several()
	end := len(x.B)
	for v, want := range []string{"first", "", "second", strings.Repeat("third", 50)} {
		e := api.OK
		if want == "" {
			e = api.ErrNotFound
		}
		if got, ge := history.Data(&x.C, x.B, end, "a", v); string(got) != want || ge != e {
			t.Errorf("version %d: %q %d", v, got, ge)
		}
	}
	for _, y := range []struct {
		from, to int
		want     string
	}{
		{0, 0, "[]"}, {0, 1, "[1b]"}, {1, 0, "[2b]"}, {0, 3, "[1a 1b 1c]"}, {3, 4, "[2a]"}, {4, 5, "[1a]"}, {2, 5, "[3a 1c]"}, {5, 6, "[]"}, {0, 9, "[1a 1aa 1c]"}, {9, 1, "[2a 2aa 1b 2c]"}, {7, 7, "[]"},
	} {
		l, e := history.Changes(&x.C, x.B, end, y.from, y.to)
		var got []string
		for _, c := range l {
			got = append(got, fmt.Sprint(c.Kind)+c.Name)
		}
		if fmt.Sprint(got) != y.want || e != api.OK {
			t.Errorf("from %d to %d: %v %d, not %s", y.from, y.to, got, e, y.want)
		}
	}
}

func TestRefused(t *testing.T) {
	x := sample.Several()
	for _, end := range []int{math.MinInt, -1, 0, 1023, len(x.B) + 1, math.MaxInt} {
		wantRefused(t, "no end", x, x.B, end, nil, api.ErrArg)
	}
	wantRefused(t, "too few bytes", x, x.B[:1023], 1024, nil, api.ErrArg)
	wantRefused(t, "too few bytes", x, nil, 0, nil, api.ErrArg)
	for i, r := range x.Rows {
		wantRefused(t, "beyond the end", x, x.B, r.Next-1, x.Rows[:i], api.ErrSize)
		wantRefused(t, "not all there", x, x.B[:r.Next-1], r.Next-1, x.Rows[:i], api.ErrEnd)
		spoilt := bytes.Clone(x.B)
		spoilt[r.Member.At+5]++
		_, e := record.Take(&x.C, spoilt, r.Member.At)
		wantRefused(t, "spoilt", x, spoilt, len(spoilt), x.Rows[:i], e)
		wantAll(t, x, spoilt, r.Member.At, x.Rows[:i])
	}
}

// What record.Data refuses is told of that version alone.
func TestSpoiltData(t *testing.T) {
	x := sample.Several()
	spoilt := bytes.Clone(x.B)
	spoilt[x.Rows[4].Member.From]++
	for v, want := range []api.Errno{api.OK, api.ErrNotFound, api.ErrSum, api.OK} {
		if l, e := history.Data(&x.C, spoilt, len(spoilt), "a", v); e != want || (len(l) == 0) != (e != api.OK) {
			t.Errorf("version %d: %d, not %d", v, e, want)
		}
	}
	wantVersions(t, x, spoilt, len(spoilt), "a", of(x.Rows, "a"))
}

// More than 200 may be live.
func TestMany(t *testing.T) {
	x := sample.Lay()
	for i := range 210 {
		x.Put(fmt.Sprintf("n%03d", i), "")
	}
	end := len(x.B)
	if l, e := history.At(&x.C, x.B, end, 210); !slices.Equal(l, sample.Live(x.Rows)) || len(l) != 210 || e != api.OK {
		t.Errorf("%d are live, %d", len(l), e)
	}
	if l, e := history.Moments(&x.C, x.B, end); len(l) != 211 || e != api.OK {
		t.Errorf("%d moments, %d", len(l), e)
	}
	if l, e := history.Changes(&x.C, x.B, end, 0, 210); len(l) != 210 || e != api.OK {
		t.Errorf("%d changes, %d", len(l), e)
	}
	if l, e := history.Data(&x.C, x.B, end, "n205", 0); len(l) != 0 || e != api.OK {
		t.Errorf("%q %d", l, e)
	}
}

func TestEachIsLeft(t *testing.T) {
	x := sample.Several()
	want := of(x.Rows, "a")
	for n := range want {
		var told []record.Record
		for r := range history.Each(&x.C, x.B, len(x.B), "a") {
			told = append(told, r)
			if len(told) > n {
				break
			}
		}
		if !slices.Equal(told, want[:n+1]) {
			t.Errorf("left behind %d: %v", n+1, told)
		}
	}
}

// An iterator tells the same each time, whatever is done with the bytes since.
func TestEachKeepsNothingThatIsHandedIn(t *testing.T) {
	x := sample.Several()
	all := history.Each(&x.C, x.B, len(x.B), "a")
	clear(x.B)
	for range 2 {
		if l := slices.Collect(all); !slices.Equal(l, of(x.Rows, "a")) {
			t.Errorf("%v", l)
		}
	}
}

func TestNothingIsChanged(t *testing.T) {
	x := sample.Several()
	kept := bytes.Clone(x.B)
	wantAll(t, x, x.B, len(x.B), x.Rows)
	data, _ := history.Data(&x.C, x.B, len(x.B), "a", 0)
	if !bytes.Equal(kept, x.B) || x.C != crc.Make() {
		t.Error("changed")
	}
	clear(x.B)
	if string(data) != "first" {
		t.Error("the answer isn't new memory")
	}
}

// 37.3

func TestApply(t *testing.T) {
	m := func(name string, at int) api.Member { return api.Member{Name: name, At: at} }
	b, d := m("b", 1), m("d", 2)
	for _, x := range []struct {
		what string
		l    []api.Member
		c    []history.Change
		want []api.Member
	}{
		{"nothing", nil, nil, nil},
		{"none", []api.Member{b, d}, nil, []api.Member{b, d}},
		{"to nothing", nil, []history.Change{{Kind: 1, Name: "a", To: m("a", 9)}}, []api.Member{m("a", 9)}},
		{"ahead", []api.Member{b, d}, []history.Change{{Kind: 1, Name: "a", To: m("a", 9)}}, []api.Member{m("a", 9), b, d}},
		{"between", []api.Member{b, d}, []history.Change{{Kind: 3, Name: "c", To: m("c", 9)}}, []api.Member{b, m("c", 9), d}},
		{"behind", []api.Member{b, d}, []history.Change{{Kind: 1, Name: "d/", To: m("d/", 9)}}, []api.Member{b, d, m("d/", 9)}},
		{"in its place", []api.Member{b, d}, []history.Change{{Kind: 1, Name: "b", To: m("b", 9)}}, []api.Member{m("b", 9), d}},
		{"in its place", []api.Member{b, d}, []history.Change{{Kind: 3, Name: "d", From: b, To: m("d", 9)}}, []api.Member{b, m("d", 9)}},
		{"gone", []api.Member{b, d}, []history.Change{{Kind: 2, Name: "b", From: d, To: d}}, []api.Member{d}},
		{"gone, not there", []api.Member{b, d}, []history.Change{{Kind: 2, Name: "c", From: b}}, []api.Member{b, d}},
		{"other kinds", []api.Member{b, d}, []history.Change{{Name: "b", To: m("a", 9)}, {Kind: 4, Name: "b", To: m("a", 9)}, {Kind: -1, Name: "b"}, {Kind: math.MaxInt, Name: "d"}}, []api.Member{b, d}},
		{"in order", []api.Member{b}, []history.Change{{Kind: 2, Name: "b"}, {Kind: 1, To: m("b", 3)}, {Kind: 3, To: m("b", 4)}, {Kind: 1, To: m("a", 5)}, {Kind: 2, Name: "a"}}, []api.Member{m("b", 4)}},
		{"To's name counts", []api.Member{b, d}, []history.Change{{Kind: 3, Name: "b", To: m("d", 7)}}, []api.Member{b, m("d", 7)}},
	} {
		l, c := slices.Clone(x.l), slices.Clone(x.c)
		got := history.Apply(l, c)
		if !slices.Equal(got, x.want) {
			t.Errorf("%s: %v, not %v", x.what, got, x.want)
		}
		if !slices.Equal(l, x.l) || !slices.Equal(c, x.c) {
			t.Errorf("%s: changed", x.what)
		}
		clear(got)
		if !slices.Equal(l, x.l) {
			t.Errorf("%s: the answer isn't new memory", x.what)
		}
	}
}

// 37.4

func TestChangesLeadFromMomentToMoment(t *testing.T) {
	dice := sample.Dice(37)
	for range 15 {
		x := sample.Lay()
		x.Any(dice, dice(40))
		end := len(x.B)
		wantAll(t, x, x.B, end, x.Rows)
		last, e := history.At(&x.C, x.B, end, len(x.Rows))
		if l, _, le := scan.Live(&x.C, x.B, end); !slices.Equal(l, last) || e != api.OK || le != api.OK {
			t.Fatalf("at last %v %d, not %v", last, e, l)
		}
		for range 60 {
			from, to := dice(len(x.Rows)+1), dice(len(x.Rows)+1)
			c, e := history.Changes(&x.C, x.B, end, from, to)
			if !slices.Equal(c, changes(x.Rows, from, to)) || e != api.OK {
				t.Fatalf("from %d to %d: %v %d, not %v", from, to, c, e, changes(x.Rows, from, to))
			}
			l, _ := history.At(&x.C, x.B, end, from)
			want, _ := history.At(&x.C, x.B, end, to)
			if got := history.Apply(l, c); !slices.Equal(got, want) {
				t.Fatalf("from %d to %d: %v, not %v", from, to, got, want)
			}
		}
	}
}

func TestWhatIsPutBehindChangesNoEarlierMoment(t *testing.T) {
	dice := sample.Dice(38)
	x := sample.Lay()
	for range 30 {
		ahead := make([][]api.Member, len(x.Rows)+1)
		for k := range ahead {
			ahead[k], _ = history.At(&x.C, x.B, len(x.B), k)
		}
		x.Any(dice, 1)
		for k, want := range ahead {
			if l, e := history.At(&x.C, x.B, len(x.B), k); !slices.Equal(l, want) || e != api.OK {
				t.Fatalf("moment %d of %d: %v %d, not %v", k, len(x.Rows), l, e, want)
			}
		}
	}
}

// Of a nil table nothing is promised but that nothing panics.
func TestNilTable(t *testing.T) {
	x := sample.Several()
	end := len(x.B)
	history.Moments(nil, x.B, end)
	history.At(nil, x.B, end, 1)
	history.Versions(nil, x.B, end, "a")
	for range history.Each(nil, x.B, end, "a") {
	}
	history.Data(nil, x.B, end, "a", 0)
	history.Changes(nil, x.B, end, 0, 1)
}
