package tree_test

import (
	"fmt"
	"iter"
	"slices"
	"strings"
	"testing"

	"bindle/api"
	"bindle/member"
	"bindle/model"
	"bindle/plan"
	"bindle/sample"
	"bindle/script"
	"bindle/tree"
)

type node = tree.Node

// sized is a map of names, each with so many bytes.
func sized(sizes map[string]int) []api.File {
	all := map[string]string{}
	for name, n := range sizes {
		all[name] = strings.Repeat("x", n)
	}
	return sample.Files(all)
}

// some is a map with a file and a folder of one name, names between them, and folders without a file of their own.
func some() []api.File {
	return sized(map[string]int{"a": 1, "a!b": 2, "a-": 4, "a/b": 8, "a/b/c": 16, "a/c/d": 32, "a/c/e/f": 64, "a0": 128, "ab/c": 256, "z/y/x/w": 512, "z/y0": 1024})
}

// thrown is a map of few parts.
func thrown(dice func(int) int) []api.File {
	all := map[string]string{}
	for range dice(12) {
		var parts []string
		for range 1 + dice(4) {
			parts = append(parts, []string{"a", "b", "a-", "ab", "c"}[dice(5)])
		}
		all[strings.Join(parts, "/")] = strings.Repeat("x", dice(9))
	}
	return sample.Files(all)
}

// folders are some of thrown maps, and some that aren't there, or aren't folders.
func folders() []string {
	return []string{"", "a", "b", "a-", "ab", "a/a", "a/b", "a/b/c", "b/a-", "c/ab", "d", "a/d", "/", "a/", "a//b", "..", "a b"}
}

func clone(l []api.File) []api.File {
	l, _ = plan.Apply(l, nil)
	return l
}

// nodes are those of a folder by the chapter's words: child by child, file by file.
func nodes(l []api.File, folder string) []node {
	var names []string
	for _, f := range l {
		names = append(names, f.Name)
	}
	var all []node
	for _, child := range member.Children(names, folder) {
		path := tree.Path(folder, child)
		n := node{Name: child}
		for _, f := range l {
			if member.In(path, f.Name) {
				n.Folder = true
			}
			if f.Name == path || member.In(path, f.Name) {
				n.Files++
				n.Bytes += len(f.Data)
			}
		}
		all = append(all, n)
	}
	return all
}

// row is what a walk tells.
type row struct {
	path string
	node
}

func told(all iter.Seq2[string, node]) []row {
	var rows []row
	for path, n := range all {
		rows = append(rows, row{path, n})
	}
	return rows
}

// walked is a walk by the words.
func walked(l []api.File, folder string) []row {
	var rows []row
	for _, n := range nodes(l, folder) {
		path := tree.Path(folder, n.Name)
		rows = append(rows, row{path, n})
		if n.Folder {
			rows = append(rows, walked(l, path)...)
		}
	}
	return rows
}

// wantFolder holds all that is told of a folder.
func wantFolder(t *testing.T, l []api.File, folder string) {
	t.Helper()
	kept := clone(l)
	files, bytes := 0, 0
	for _, f := range l {
		if member.In(folder, f.Name) {
			files++
			bytes += len(f.Data)
		}
	}
	if n, b := tree.Total(l, folder); n != files || b != bytes {
		t.Errorf("Total of %q: %d %d, not %d %d", folder, n, b, files, bytes)
	}
	if got := tree.List(l, folder); !slices.Equal(got, nodes(l, folder)) {
		t.Errorf("List of %q: %v, not %v", folder, got, nodes(l, folder))
	}
	if got := told(tree.Walk(l, folder)); !slices.Equal(got, walked(l, folder)) {
		t.Errorf("Walk of %q: %v, not %v", folder, got, walked(l, folder))
	}
	want := ""
	for _, r := range walked(l, folder) {
		deep := len(member.Parts(r.path)) - len(member.Parts(folder)) - 1
		sign := ""
		if r.Folder {
			sign = "/"
		}
		want += fmt.Sprintf("%s%s%s %d\n", strings.Repeat("  ", deep), r.Name, sign, r.Bytes)
	}
	if got := tree.Text(l, folder); got != want {
		t.Errorf("Text of %q: %q, not %q", folder, got, want)
	}
	if !model.Same(l, kept) {
		t.Errorf("of %q: changed", folder)
	}
}

// 39.1

func TestExample(t *testing.T) {
	l := sized(map[string]int{"a/b": 1, "a/c/d": 2})
	if s := tree.Text(l, ""); s != "a/ 3\n  b 1\n  c/ 2\n    d 2\n" {
		t.Errorf("%q", s)
	}
	if s := tree.Text(l, "a"); s != "b 1\nc/ 2\n  d 2\n" {
		t.Errorf("%q", s)
	}
}

func TestByHand(t *testing.T) {
	l := some()
	for _, x := range []struct {
		folder       string
		files, bytes int
		list         []node
	}{
		{"", 11, 2047, []node{{"a", 5, 121, true}, {"a!b", 1, 2, false}, {"a-", 1, 4, false}, {"a0", 1, 128, false}, {"ab", 1, 256, true}, {"z", 2, 1536, true}}},
		{"a", 4, 120, []node{{"b", 2, 24, true}, {"c", 2, 96, true}}},
		{"a/b", 1, 16, []node{{"c", 1, 16, false}}},
		{"a/c", 2, 96, []node{{"d", 1, 32, false}, {"e", 1, 64, true}}},
		{"z", 2, 1536, []node{{"y", 1, 512, true}, {"y0", 1, 1024, false}}},
		{"a0", 0, 0, nil},
		{"a!", 0, 0, nil},
		{"a/b/c", 0, 0, nil},
		{"y", 0, 0, nil},
		{"a/", 0, 0, nil},
		{"/", 0, 0, nil},
		{"a//b", 0, 0, nil},
	} {
		files, bytes := tree.Total(l, x.folder)
		if list := tree.List(l, x.folder); files != x.files || bytes != x.bytes || !slices.Equal(list, x.list) {
			t.Errorf("%q: %d files, %d bytes, %v", x.folder, files, bytes, list)
		}
		wantFolder(t, l, x.folder)
	}
	want := "a/ 121\n  b/ 24\n    c 16\n  c/ 96\n    d 32\n    e/ 64\n      f 64\na!b 2\na- 4\na0 128\nab/ 256\n  c 256\nz/ 1536\n  y/ 512\n    x/ 512\n      w 512\n  y0 1024\n"
	if s := tree.Text(l, ""); s != want {
		t.Errorf("%q", s)
	}
	for _, folder := range folders() {
		wantFolder(t, nil, folder)
	}
}

func TestPath(t *testing.T) {
	for _, x := range []struct{ folder, child, want string }{
		{"", "a", "a"}, {"a", "b", "a/b"}, {"a/b", "c", "a/b/c"}, {"a", "", "a/"}, {"", "", ""}, {"/", "a b", "//a b"}, {"", "/a", "/a"},
	} {
		if got := tree.Path(x.folder, x.child); got != x.want {
			t.Errorf("Path(%q, %q): %q, not %q", x.folder, x.child, got, x.want)
		}
	}
}

func TestDeepNames(t *testing.T) {
	deep := strings.Repeat("d/", 31) + "de"
	l := sized(map[string]int{deep: 3, "d/e": 1})
	if len(deep) != 64 {
		t.Fatal("no such name")
	}
	wantFolder(t, l, "")
	wantFolder(t, l, deep[:61])
	if rows := told(tree.Walk(l, "")); len(rows) != 33 || rows[31] != (row{deep, node{"de", 1, 3, false}}) {
		t.Errorf("%v", rows)
	}
}

func TestWalkIsLeft(t *testing.T) {
	l := some()
	want := walked(l, "")
	for n := range want {
		var rows []row
		for path, x := range tree.Walk(l, "") {
			rows = append(rows, row{path, x})
			if len(rows) > n {
				break
			}
		}
		if !slices.Equal(rows, want[:n+1]) {
			t.Errorf("left behind %d: %v", n+1, rows)
		}
	}
}

// An iterator tells the same each time, whatever is done with the map since.
func TestWalkKeepsNothingThatIsHandedIn(t *testing.T) {
	l := some()
	want := walked(l, "")
	all := tree.Walk(l, "")
	for i := range l {
		clear(l[i].Data)
		l[i] = sample.File("other", "other")
	}
	for range 2 {
		if rows := told(all); !slices.Equal(rows, want) {
			t.Errorf("%v, not %v", rows, want)
		}
	}
}

// 39.2

// wantMove holds what is moved, and the steps to that.
func wantMove(t *testing.T, l []api.File, from, to string, want []api.File, e api.Errno) {
	t.Helper()
	kept := clone(l)
	got, ge := tree.Move(l, from, to)
	if !model.Same(got, want) || ge != e {
		t.Errorf("from %q to %q: %v %d, not %v %d", from, to, got, ge, want, e)
	}
	for _, f := range got {
		clear(f.Data)
	}
	clear(got)
	if !model.Same(l, kept) {
		t.Errorf("from %q to %q: changed, or the answer isn't new memory", from, to)
	}
	var steps []api.Op
	if e == api.OK {
		steps = plan.Diff(l, want)
	}
	if got, ge := tree.Steps(l, from, to); !slices.EqualFunc(got, steps, script.Same) || ge != e {
		t.Errorf("from %q to %q: %v %d, not %v %d", from, to, got, ge, steps, e)
	}
}

func TestMove(t *testing.T) {
	l := sized(map[string]int{"a": 1, "a-": 2, "a/b": 3, "a/c/d": 4, "ab": 5, "b": 6})
	long := strings.Repeat("n", 64)
	for _, x := range []struct {
		from, to string
		want     []api.File
		e        api.Errno
	}{
		{"a", "c", sized(map[string]int{"c": 1, "a-": 2, "c/b": 3, "c/c/d": 4, "ab": 5, "b": 6}), api.OK},
		{"a", "Z/y", sized(map[string]int{"Z/y": 1, "a-": 2, "Z/y/b": 3, "Z/y/c/d": 4, "ab": 5, "b": 6}), api.OK},
		{"a/c", "e", sized(map[string]int{"a": 1, "a-": 2, "a/b": 3, "e/d": 4, "ab": 5, "b": 6}), api.OK},
		{"a/c", "a/d", sized(map[string]int{"a": 1, "a-": 2, "a/b": 3, "a/d/d": 4, "ab": 5, "b": 6}), api.OK},
		{"a/c/d", "a/c0", sized(map[string]int{"a": 1, "a-": 2, "a/b": 3, "a/c0": 4, "ab": 5, "b": 6}), api.OK},
		{"b", "a/a", sized(map[string]int{"a": 1, "a-": 2, "a/a": 6, "a/b": 3, "a/c/d": 4, "ab": 5}), api.OK},
		{"b", "ab/c", sized(map[string]int{"a": 1, "a-": 2, "a/b": 3, "a/c/d": 4, "ab": 5, "ab/c": 6}), api.OK},
		{"b", "b", l, api.OK},
		{"a", "a", l, api.OK},
		{"a/c", "a/c", l, api.OK},
		{"b", long, sized(map[string]int{"a": 1, "a-": 2, "a/b": 3, "a/c/d": 4, "ab": 5, long: 6}), api.OK},
		{"", "c", nil, api.ErrName},
		{"a", "", nil, api.ErrName},
		{"a", "c/", nil, api.ErrName},
		{"a//b", "c", nil, api.ErrName},
		{"", "", nil, api.ErrName},
		{"x y", "x y", nil, api.ErrName},
		{"x", "a//b", nil, api.ErrName},
		{"x", "c", nil, api.ErrNotFound},
		{"x", "x", nil, api.ErrNotFound},
		{"x", "x/y", nil, api.ErrNotFound},
		{"x", "a", nil, api.ErrNotFound},
		{"a/b/c", "c", nil, api.ErrNotFound},
		{"A", "c", nil, api.ErrNotFound},
		{"a", "a/b", nil, api.ErrArg},
		{"a", "a/x", nil, api.ErrArg},
		{"a/c", "a/c/d/e", nil, api.ErrArg},
		{"b", "b/b", nil, api.ErrArg},
		{"a", "b", nil, api.ErrExists},
		{"b", "a", nil, api.ErrExists},
		{"b", "a/c", nil, api.ErrExists},
		{"a/b", "a", nil, api.ErrExists},
		{"a/c/d", "a/c", nil, api.ErrExists},
		{"a", "ab", nil, api.ErrExists},
		{"a", long, nil, api.ErrName},
		{"a/c", long[:63], nil, api.ErrName},
		{"a/c", long[:62], sized(map[string]int{"a": 1, "a-": 2, "a/b": 3, long[:62] + "/d": 4, "ab": 5, "b": 6}), api.OK},
	} {
		wantMove(t, l, x.from, x.to, x.want, x.e)
	}
	wantMove(t, nil, "a", "b", nil, api.ErrNotFound)
}

// Also files of no keepable length are moved as they are.
func TestMoveOfMuchData(t *testing.T) {
	l := sized(map[string]int{"a/b": 65537, "c": 1})
	wantMove(t, l, "a", "d", sized(map[string]int{"c": 1, "d/b": 65537}), api.OK)
	var many, want []api.File
	for i := range 300 {
		many = append(many, sample.File(fmt.Sprintf("a/%03d", i), "x"))
		want = append(want, sample.File(fmt.Sprintf("b/%03d", i), "x"))
	}
	wantMove(t, many, "a", "b", want, api.OK)
}

// 39.3 and 39.4

func TestAnyFolders(t *testing.T) {
	dice := sample.Dice(39)
	for range 300 {
		l := thrown(dice)
		for _, folder := range folders() {
			wantFolder(t, l, folder)
			files, bytes := tree.Total(l, folder)
			for _, n := range tree.List(l, folder) {
				files -= n.Files
				bytes -= n.Bytes
			}
			if files != 0 || bytes != 0 {
				t.Fatalf("%q has %d files, %d bytes more than its children", folder, files, bytes)
			}
		}
		// The files are those that a walk finds.
		var found []api.File
		for _, r := range told(tree.Walk(l, "")) {
			if data, there := model.Find(l, r.path); there {
				found = model.With(found, r.path, data)
			} else if !r.Folder {
				t.Fatalf("%q is neither a file nor a folder", r.path)
			}
		}
		if !model.Same(found, l) {
			t.Fatalf("a walk finds %v, not %v", found, l)
		}
	}
}

func TestThereAndBack(t *testing.T) {
	dice := sample.Dice(40)
	often := map[api.Errno]int{}
	for range 3000 {
		l := thrown(dice)
		from, to := folders()[dice(12)], folders()[dice(12)]
		got, e := tree.Move(l, from, to)
		often[e]++
		if e != api.OK {
			continue
		}
		wantMove(t, l, from, to, got, e)
		var want []api.File
		for _, f := range l {
			if f.Name == from || strings.HasPrefix(f.Name, from+"/") {
				f.Name = to + strings.TrimPrefix(f.Name, from)
			}
			want = model.With(want, f.Name, f.Data)
		}
		if !model.Same(got, want) {
			t.Fatalf("%v from %q to %q: %v, not %v", l, from, to, got, want)
		}
		back, e := tree.Move(got, to, from)
		if !model.Same(back, l) || e != api.OK {
			t.Fatalf("%v from %q to %q, and back: %v %d", l, from, to, back, e)
		}
		steps, _ := tree.Steps(l, from, to)
		if done, e := plan.Apply(l, steps); !model.Same(done, got) || e != api.OK {
			t.Fatalf("%v from %q to %q: by steps %v %d", l, from, to, done, e)
		}
	}
	for _, e := range []api.Errno{api.OK, api.ErrName, api.ErrNotFound, api.ErrArg, api.ErrExists} {
		if often[e] < 20 {
			t.Errorf("error %d: but %d times", e, often[e])
		}
	}
}
