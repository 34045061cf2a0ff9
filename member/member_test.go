package member_test

import (
	"slices"
	"strings"
	"testing"

	"bindle/member"
	"bindle/sample"
)

func wantNames(t *testing.T, what string, got, want []string) {
	t.Helper()
	if !slices.Equal(got, want) {
		t.Errorf("%s: %q, not %q", what, got, want)
	}
}

func wantRight(t *testing.T, s string, want bool) {
	t.Helper()
	if member.Right(s) != want {
		t.Errorf("Right(%q): %t", s, !want)
	}
}

func wantIn(t *testing.T, folder, s string, want bool) {
	t.Helper()
	if member.In(folder, s) != want {
		t.Errorf("In(%q, %q): %t", folder, s, !want)
	}
}

// long is a name of so many bytes.
func long(n int) string {
	return strings.Repeat("a", n)
}

// right and wrong are texts that are names, and texts that are none.
func right() []string {
	return []string{"a", "0", "!", "~", "ab", "a/b", "a/b/c", "...", "a/...", ".a", "a.", "..a", "a..", "a/.b", "a./b", "a../b", ".../..a", "A/b", "-", "\\", `"`, "a:b", "a b"[:1], long(63), long(64), "a/" + long(62), "a/a/" + long(60), strings.Repeat("a/", 31) + "bb"}
}

func wrong() []string {
	return []string{
		"", "/", "//", "/a", "a/", "a//b", "a//", "//a", "/a/b", "a/b/", "a/b//c",
		".", "..", "./a", "../a", "a/.", "a/..", "a/./b", "a/../b", "./.", "../..", "a/b/..",
		" ", "a b", " a", "a ", "a/ /b", "\x00", "a\x00", "\n", "a\tb", "\x1f", "\x7f", "a\x7f", "\x80", "a\x80b", "\xff", "\xc3\xa9", "\xe2\x82\xac", "a/\xf0\x9f\x98\x80", "\xc3", "a\xed\xa0\x80", "\xef\xbf\xbd",
		long(65), long(66), long(1000), "a/" + long(63), long(64) + "/", "/" + long(63), strings.Repeat("a/", 32) + "b", strings.Repeat("/", 64),
	}
}

// 15.1

func TestRight(t *testing.T) {
	for _, s := range right() {
		wantRight(t, s, true)
	}
	for _, s := range wrong() {
		wantRight(t, s, false)
	}
}

func TestRightOfEachByte(t *testing.T) {
	for x := range 256 {
		sign := string([]byte{byte(x)})
		fine := x >= 33 && x <= 126
		alone := fine && x != '/' && x != '.'
		wantRight(t, sign, alone)
		wantRight(t, "a"+sign+"b", fine)
		wantRight(t, "a/"+sign, alone)
		wantRight(t, sign+"/a", alone)
		wantRight(t, long(63)+sign, fine && x != '/')
		wantRight(t, "a/"+sign+sign, fine && x != '/' && x != '.')
		wantRight(t, sign+sign+sign, fine && x != '/')
	}
}

func TestParts(t *testing.T) {
	for _, x := range []struct {
		s    string
		want []string
	}{
		{"a", []string{"a"}},
		{"a/b", []string{"a", "b"}},
		{"ab/.../c.d", []string{"ab", "...", "c.d"}},
		{long(64), []string{long(64)}},
	} {
		wantNames(t, "Parts of "+x.s, member.Parts(x.s), x.want)
	}
	for _, s := range wrong() {
		wantNames(t, "Parts of none", member.Parts(s), nil)
	}
}

func TestFolder(t *testing.T) {
	for _, x := range []struct{ s, want string }{{"a", ""}, {"...", ""}, {"a/b", "a"}, {"a/b/c", "a/b"}, {"ab/c.d/...", "ab/c.d"}, {"a/" + long(62), "a"}, {long(62) + "/a", long(62)}} {
		if folder, ok := member.Folder(x.s); folder != x.want || !ok {
			t.Errorf("Folder(%q): %q %t, not %q", x.s, folder, ok, x.want)
		}
	}
	for _, s := range wrong() {
		if folder, ok := member.Folder(s); folder != "" || ok {
			t.Errorf("Folder(%q): %q %t", s, folder, ok)
		}
	}
}

func TestIn(t *testing.T) {
	for _, x := range []struct {
		folder, s string
		want      bool
	}{
		{"", "a", true},
		{"", "a/b/c", true},
		{"a", "a/b", true},
		{"a", "a/b/c", true},
		{"a/b", "a/b/c", true},
		{"a", "a", false},
		{"a", "ab", false},
		{"a", "ab/c", false},
		{"a", "b/a", false},
		{"a", "b/a/c", false},
		{"a/b", "a", false},
		{"a/b", "a/b", false},
		{"a/b", "a/bc", false},
		{"a/b", "a/c/b", false},
		{"A", "a/b", false},
		{"a/", "a/b", false},
		{"/", "a", false},
		{"/", "/a", false},
		{"a/", "a//b", false},
		{".", "a", false},
		{".", "./a", false},
		{"..", "../a", false},
		{"a", "a/", false},
		{"a", "a//b", false},
		{"a", "a/..", false},
		{"a", "a/b ", false},
		{"", "", false},
		{"a", "", false},
		{"a b", "a b/c", false},
		{"", "a b", false},
		{long(62), long(62) + "/b", true},
		{long(63), long(63) + "/b", false},
		{long(64), long(64), false},
		{long(65), "a", false},
	} {
		wantIn(t, x.folder, x.s, x.want)
	}
	for _, s := range wrong() {
		wantIn(t, "", s, false)
		wantIn(t, "a", s, false)
		wantIn(t, s, s+"/a", s == "" && member.Right("/a"))
		if s != "" {
			wantIn(t, s, "a/b", false)
		}
	}
	for _, s := range right() {
		wantIn(t, "", s, true)
		wantIn(t, s, s, false)
		wantIn(t, s, s+"/b", len(s) <= 62)
		wantIn(t, s, s+"b", false)
	}
}

// 15.2

func TestSort(t *testing.T) {
	for _, x := range []struct{ l, want []string }{
		{nil, nil},
		{[]string{}, nil},
		{[]string{"b", "a", "b", "a", "b"}, []string{"a", "b"}},
		{[]string{"a/b", "a", "a.b", "a0", "ab", "B", "a/"}, []string{"B", "a", "a.b", "a/", "a/b", "a0", "ab"}},
		{[]string{"", "a", ""}, []string{"", "a"}},
		{[]string{"\xff", "\xc3\xa9", "~", "a b", "\x00", "\x80"}, []string{"\x00", "a b", "~", "\x80", "\xc3\xa9", "\xff"}},
		{[]string{"ab", "a", "abc", ""}, []string{"", "a", "ab", "abc"}},
	} {
		wantNames(t, "Sort", member.Sort(x.l), x.want)
	}
}

func TestUnder(t *testing.T) {
	l := []string{"b", "a/c/d", "a", "a/b", "ab/c", "a/b", "a/", "a//b", "", "b", ".", "a.b", "a/c"}
	wantNames(t, "of all", member.Under(l, ""), []string{"a", "a.b", "a/b", "a/c", "a/c/d", "ab/c", "b"})
	wantNames(t, "of a", member.Under(l, "a"), []string{"a/b", "a/c", "a/c/d"})
	wantNames(t, "of a/c", member.Under(l, "a/c"), []string{"a/c/d"})
	for _, folder := range []string{"b", "a/b", "c", "a/c/d", "a/", "/", ".", " "} {
		wantNames(t, "of "+folder, member.Under(l, folder), nil)
	}
	wantNames(t, "of nil", member.Under(nil, ""), nil)
}

func TestChildren(t *testing.T) {
	wantNames(t, "the example", member.Children([]string{"a/b", "a/c/d"}, "a"), []string{"b", "c"})
	l := []string{"b", "a/c/d", "a", "a/c/e/f", "a/b", "a/c", "ab/c", "a/b/x", "a//b", "a/.", "z/z/z", "a/b.c", "c c"}
	wantNames(t, "of all", member.Children(l, ""), []string{"a", "ab", "b", "z"})
	wantNames(t, "of a", member.Children(l, "a"), []string{"b", "b.c", "c"})
	wantNames(t, "of a/c", member.Children(l, "a/c"), []string{"d", "e"})
	wantNames(t, "of a/c/e", member.Children(l, "a/c/e"), []string{"f"})
	wantNames(t, "of z", member.Children(l, "z"), []string{"z"})
	for _, folder := range []string{"b", "a/c/d", "q", "a/", "/", "..", "c c"} {
		wantNames(t, "of "+folder, member.Children(l, folder), nil)
	}
	wantNames(t, "of nil", member.Children(nil, ""), nil)
	// By names a.b stands between a and a/b: their first part is told once.
	wantNames(t, "by bytes", member.Children([]string{"x/a/b", "x/a.b", "x/a", "x/a0/c"}, "x"), []string{"a", "a.b", "a0"})
}

func TestFind(t *testing.T) {
	l := []string{"a", "a.b", "a/b", "b", "\xff"}
	for _, x := range []struct {
		s    string
		want int
		ok   bool
	}{
		{"a", 0, true}, {"a.b", 1, true}, {"a/b", 2, true}, {"b", 3, true}, {"\xff", 4, true},
		{"", 0, false}, {"A", 0, false}, {"a\x00", 1, false}, {"a/", 2, false}, {"a/a", 2, false}, {"a/bb", 3, false}, {"ab", 3, false}, {"c", 4, false}, {"\xff\x00", 5, false},
	} {
		if at, ok := member.Find(l, x.s); at != x.want || ok != x.ok {
			t.Errorf("Find(%q): %d %t, not %d %t", x.s, at, ok, x.want, x.ok)
		}
	}
	if at, ok := member.Find(nil, "a"); at != 0 || ok {
		t.Errorf("in nothing: %d %t", at, ok)
	}
}

func TestFindInMany(t *testing.T) {
	var l []string
	for i := range 300 {
		l = append(l, "n"+string(rune('a'+i/26))+string(rune('a'+i%26)))
	}
	for i, s := range l {
		if at, ok := member.Find(l, s); at != i || !ok {
			t.Errorf("Find(%q): %d %t", s, at, ok)
		}
		if at, ok := member.Find(l, s+"0"); at != i+1 || ok {
			t.Errorf("Find(%q): %d %t", s+"0", at, ok)
		}
	}
}

func TestListsAreNewMemory(t *testing.T) {
	l := []string{"b", "a/b", "a/b", "a"}
	kept := slices.Clone(l)
	for _, answer := range [][]string{member.Sort(l), member.Under(l, ""), member.Under(l, "a"), member.Children(l, ""), member.Sort(l[:1]), member.Under(l[:1], "")} {
		for i := range answer {
			answer[i] = "changed"
		}
		wantNames(t, "what was handed in", l, kept)
	}
	member.Find(l[2:], "a")
	wantNames(t, "what was handed in", l, kept)
}

// 15.3

// some is names, and texts that are none.
func some(throw func(int) int, n int) []string {
	var l []string
	for range n {
		var s strings.Builder
		for range 1 + throw(4) {
			s.WriteString([]string{"a", "b", "ab", ".", "..", "...", "", "c", "a.b", "a "}[throw(10)])
			if throw(3) > 0 {
				s.WriteByte('/')
			}
		}
		l = append(l, s.String(), strings.TrimSuffix(s.String(), "/"))
	}
	return l
}

func TestANameIsItsParts(t *testing.T) {
	throw := sample.Dice(1)
	for _, s := range append(some(throw, 2000), right()...) {
		parts := member.Parts(s)
		folder, ok := member.Folder(s)
		if ok != member.Right(s) || ok != (len(parts) > 0) {
			t.Fatalf("%q: %q %q %t", s, parts, folder, ok)
		}
		if !ok {
			continue
		}
		if strings.Join(parts, "/") != s || strings.Join(parts[:len(parts)-1], "/") != folder {
			t.Fatalf("%q: %q %q", s, parts, folder)
		}
		for n := range parts {
			wantRight(t, strings.Join(parts[:n+1], "/"), true)
			wantIn(t, strings.Join(parts[:n], "/"), s, true)
		}
	}
}

// What is behind a folder's children, or is one of them, is all that is under it.
func TestChildrenAndWhatIsUnder(t *testing.T) {
	throw := sample.Dice(2)
	for range 300 {
		l := some(throw, throw(30))
		for _, folder := range []string{"", "a", "ab", "a/b", "...", ".", "a/"} {
			under := member.Under(l, folder)
			begin := folder + "/"
			if folder == "" {
				begin = ""
			}
			var want []string
			for _, s := range l {
				if member.In(folder, s) {
					want = append(want, s)
				}
			}
			wantNames(t, "under "+folder, under, member.Sort(want))
			var all []string
			for _, child := range member.Children(l, folder) {
				name := begin + child
				all = append(all, member.Under(l, name)...)
				if slices.Contains(l, name) {
					all = append(all, name)
				}
				if !member.In(folder, name) || len(member.Parts(child)) != 1 {
					t.Fatalf("%q is no child of %q", child, folder)
				}
			}
			wantNames(t, "children and what is behind them in "+folder, member.Sort(all), under)
		}
	}
}
