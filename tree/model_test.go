package tree_test

import (
	"bytes"
	"maps"
	"math/rand/v2"
	"slices"
	"testing"

	"smartcard/api"
	"smartcard/filehead"
	"smartcard/tree"
	"smartcard/vault"
)

// model is a tree as the document defines it: the headers of all files, and the children of each directory, in their order.
type model struct {
	heads    map[int]api.File
	children map[int][]int
}

// masterHead is the header of a new master file.
var masterHead = api.File{ID: 0x3f00, Kind: api.FileDF, State: api.FileActive, Rules: []api.Rule{{Ops: api.OpCreate, Cond: api.Cond{Op: api.CondAlways}}}}

func newModel() *model {
	return &model{heads: map[int]api.File{1: masterHead}, children: map[int][]int{}}
}

func (m *model) copied() *model {
	c := &model{heads: maps.Clone(m.heads), children: map[int][]int{}}
	for dir, l := range m.children {
		c.children[dir] = slices.Clone(l)
	}
	return c
}

// parent returns 0 for the master file, and for what is no file.
func (m *model) parent(h int) int {
	for dir, l := range m.children {
		if slices.Contains(l, h) {
			return dir
		}
	}
	return 0
}

// path returns the files on the way from the master file to another file, which is the last one.
func (m *model) path(h int) []int {
	if h == 1 {
		return []int{1}
	}
	return append(m.path(m.parent(h)), h)
}

func (m *model) create(dir int, f api.File) (int, api.Errno) {
	if e := filehead.Check(f); e != api.OK {
		return 0, e
	}
	d, ok := m.heads[dir]
	switch {
	case f.ID == 0x3f00:
		return 0, api.ErrArg
	case !ok:
		return 0, api.ErrNone
	case d.Kind != api.FileDF:
		return 0, api.ErrType
	case len(m.path(dir)) == 8:
		return 0, api.ErrRange
	}
	for h, g := range m.heads {
		sibling := slices.Contains(m.children[dir], h)
		if sibling && g.ID == f.ID || sibling && f.Short > 0 && g.Short == f.Short || len(f.Name) > 0 && bytes.Equal(g.Name, f.Name) {
			return 0, api.ErrTwice
		}
	}
	if len(m.heads) == 128 {
		return 0, api.ErrFull
	}
	h := 1
	for m.heads[h].Kind != 0 {
		h++
	}
	m.heads[h] = f
	m.children[dir] = append(m.children[dir], h)
	return h, api.OK
}

func (m *model) remove(h int) api.Errno {
	switch _, ok := m.heads[h]; {
	case !ok:
		return api.ErrNone
	case h == 1:
		return api.ErrState
	case len(m.children[h]) > 0:
		return api.ErrBusy
	}
	dir := m.parent(h)
	m.children[dir] = slices.DeleteFunc(m.children[dir], func(x int) bool { return x == h })
	delete(m.heads, h)
	return api.OK
}

func (m *model) setState(h, op int) api.Errno {
	f, ok := m.heads[h]
	if !ok {
		return api.ErrNone
	}
	next, e := filehead.Next(f.State, op)
	if e != api.OK {
		return e
	}
	f.State = next
	m.heads[h] = f
	return api.OK
}

// search returns the first one of some files whose header is searched for, and whether there is one.
func (m *model) search(l []int, fits func(f api.File) bool) (int, bool) {
	i := slices.IndexFunc(l, func(h int) bool { return fits(m.heads[h]) })
	if i < 0 {
		return 0, false
	}
	return l[i], true
}

func expectFound(t *testing.T, what string, h int, ok bool, wantH int, want bool) {
	t.Helper()
	if h != wantH || ok != want {
		t.Fatal(what, "finds", h, ok, "and not", wantH, want)
	}
}

var (
	someIDs   = []int{1, 2, 3, 0x5000, 0x5001, 0x7f10, 0xfffe}
	someNames = []string{"", "a", "ab", "abc", "b", "0123456789abcdef"}
)

// handles returns the handles of all files, and some others.
func (m *model) handles() []int {
	return slices.AppendSeq([]int{-1, 0, 128, 129, 256, len(m.heads) + 1}, maps.Keys(m.heads))
}

// expectFiles compares all files with the model.
func expectFiles(t *testing.T, x *tree.Tree, m *model) {
	t.Helper()
	if x.Count() != len(m.heads) {
		t.Fatal("Count is", x.Count(), "and not", len(m.heads))
	}
	for _, h := range m.handles() {
		f, ok := m.heads[h]
		got, there := x.Header(h)
		if there != ok || !filehead.Same(got, f) {
			t.Fatal("the header of", h, "is", got, there, "and not", f)
		}
		dir, there := x.Parent(h)
		expectFound(t, "Parent", dir, there, m.parent(h), ok && h != 1)
	}
}

// expectModel compares all that can be seen of a tree with the model.
func expectModel(t *testing.T, x *tree.Tree, m *model) {
	t.Helper()
	expectFiles(t, x, m)
	for _, h := range m.handles() {
		expectPath(t, x, m, h)
		if l := x.Children(h); !slices.Equal(l, m.children[h]) {
			t.Fatal("the children of", h, "are", l, "and not", m.children[h])
		}
		for _, id := range append(someIDs, 0, 0x3f00) {
			c, there := x.ByID(h, id)
			want, ok := m.search(m.children[h], func(f api.File) bool { return f.ID == id })
			expectFound(t, "ByID", c, there, want, ok)
		}
		for short := -1; short <= 5; short++ {
			c, there := x.ByShort(h, short)
			want, ok := m.search(m.children[h], func(f api.File) bool { return short != 0 && f.Short == short })
			expectFound(t, "ByShort", c, there, want, ok)
		}
	}
	expectNames(t, x, m)
}

// expectPath compares what belongs to the path of a file.
func expectPath(t *testing.T, x *tree.Tree, m *model, h int) {
	t.Helper()
	var ids, way []int
	if _, ok := m.heads[h]; ok {
		way = m.path(h)
		for _, h := range way[1:] {
			ids = append(ids, m.heads[h].ID)
		}
	}
	if got := x.Path(h); !slices.Equal(got, ids) {
		t.Fatal("the path of", h, "is", got, "and not", ids)
	}
	for i, dir := range way {
		got, ok := x.ByPath(dir, ids[i:])
		expectFound(t, "ByPath", got, ok, h, true)
	}
	if len(way) == 0 {
		got, ok := x.ByPath(h, nil)
		expectFound(t, "ByPath", got, ok, 0, false)
	}
	for _, id := range []int{9, 0x3f00} { // no file has one of these
		got, ok := x.ByPath(1, append(slices.Clip(ids), id))
		expectFound(t, "ByPath", got, ok, 0, false)
		got, ok = x.ByPath(1, append([]int{id}, ids...))
		expectFound(t, "ByPath", got, ok, 0, false)
	}
}

func expectNames(t *testing.T, x *tree.Tree, m *model) {
	t.Helper()
	for _, name := range append(someNames, "0123456789abcdefg", "x") {
		for after := -1; after <= 12; after++ {
			l := slices.DeleteFunc(slices.Sorted(maps.Keys(m.heads)), func(h int) bool { return h <= after })
			want, ok := m.search(l, func(f api.File) bool { return len(f.Name) > 0 && bytes.HasPrefix(f.Name, []byte(name)) })
			got, there := x.ByName([]byte(name), after)
			expectFound(t, "ByName", got, there, want, ok)
		}
	}
}

// randomHead returns a header, which is not valid now and then.
func randomHead(r *rand.Rand) api.File {
	f := api.File{ID: someIDs[r.IntN(len(someIDs))], Kind: 1 + r.IntN(5), Short: r.IntN(5), State: 1 + r.IntN(3)}
	switch f.Kind {
	case api.FileDF:
		f.Short, f.Name = 0, []byte(someNames[r.IntN(len(someNames))])
	case api.FileBinary:
		f.Size = 1 + r.IntN(1024)
	default:
		f.Length, f.Records = 1+r.IntN(32), 1+r.IntN(32)
	}
	for range r.IntN(3) {
		f.Rules = append(f.Rules, api.Rule{Ops: 1 + r.IntN(255), Cond: api.Cond{Op: api.CondPin, N: 1 + r.IntN(8)}})
	}
	switch r.IntN(40) {
	case 0:
		f.ID = []int{0x3f00, 0x3fff, 0xffff, 0}[r.IntN(4)]
	case 1:
		f.State = 0
	}
	return f
}

// call is a call of a tree that changes it.
type call func(x *tree.Tree) (int, api.Errno)

// randomCall makes a call on the model, and returns the same call of a tree, and what it has to return.
func randomCall(r *rand.Rand, m *model) (c call, h int, e api.Errno) {
	known := slices.Sorted(maps.Keys(m.heads))
	some := known[r.IntN(len(known))]
	if r.IntN(12) == 0 {
		some = []int{-1, 0, 129, 256, r.IntN(20)}[r.IntN(5)]
	}
	switch n := r.IntN(10); {
	case n < 6:
		f := randomHead(r)
		h, e = m.create(some, f)
		return func(x *tree.Tree) (int, api.Errno) { return x.Create(some, f) }, h, e
	case n < 8:
		e = m.remove(some)
		return func(x *tree.Tree) (int, api.Errno) { return 0, x.Remove(some) }, 0, e
	}
	op := 1 << (r.IntN(4) + 4)
	e = m.setState(some, op)
	return func(x *tree.Tree) (int, api.Errno) { return 0, x.SetState(some, op) }, 0, e
}

// expectCall makes a call of a tree.
func expectCall(t *testing.T, x *tree.Tree, c call, h int, e api.Errno) {
	t.Helper()
	if gotH, got := c(x); gotH != h || got != e {
		t.Fatal("a call returns", gotH, got, "and not", h, e)
	}
}

// P16.1 to P16.9, and P16.11

// TestModel makes random calls, in transactions and outside, and compares all that can be seen. Now and then the vault is mounted, or the tree opened, again.
func TestModel(t *testing.T) {
	count := map[api.Errno]int{}
	for seed := range uint64(8) {
		r := rand.New(rand.NewPCG(seed, 16))
		mem, v := created(t, 16384)
		x, m := opened(t, v), newModel()
		marks := map[int]*model{} // the model for each mark of the transaction
		for i := range 250 {
			switch n := r.IntN(40); {
			case n == 0 && !v.Active():
				v = mounted(t, mem)
				x = opened(t, v)
			case n == 1:
				x = opened(t, v)
			case n < 5:
				m = endOrBegin(t, r, v, m, marks)
			default:
				c, h, e := randomCall(r, m)
				expectCall(t, x, c, h, e)
				count[e]++
				marks[v.Save()] = m.copied()
			}
			expectFiles(t, x, m)
			if i%20 == 0 {
				expectModel(t, x, m)
				expectStructure(t, x)
			}
		}
	}
	for _, e := range []api.Errno{api.OK, api.ErrNone, api.ErrType, api.ErrTwice, api.ErrState, api.ErrBusy, api.ErrArg, api.ErrRange} {
		if count[e] < 5 {
			t.Error("the result", e, "occurred", count[e], "times")
		}
	}
}

// endOrBegin begins a transaction, or ends the current one in one of several ways. It returns the model that holds then.
func endOrBegin(t *testing.T, r *rand.Rand, v *vault.Vault, m *model, marks map[int]*model) *model {
	t.Helper()
	if !v.Active() {
		clear(marks)
		expect(t, "Begin", v.Begin(), api.OK)
		marks[0] = m.copied()
		return m
	}
	switch r.IntN(3) {
	case 0:
		expect(t, "Abort", v.Abort(), api.OK)
		return marks[0]
	case 1:
		l := slices.Sorted(maps.Keys(marks))
		l = slices.DeleteFunc(l, func(mark int) bool { return mark > v.Save() })
		mark := l[r.IntN(len(l))]
		expect(t, "Back", v.Back(mark), api.OK)
		return marks[mark].copied()
	}
	expect(t, "Commit", v.Commit(), api.OK)
	return m
}

// expectStructure checks what holds of every tree.
func expectStructure(t *testing.T, x *tree.Tree) {
	t.Helper()
	seen := map[int]bool{}
	var visit func(dir, depth int)
	visit = func(dir, depth int) {
		if seen[dir] || depth > 8 {
			t.Fatal("the file", dir, "is in two directories, or its depth is", depth)
		}
		seen[dir] = true
		ids := map[int]bool{}
		for _, h := range x.Children(dir) {
			f, _ := x.Header(h)
			if ids[f.ID] {
				t.Fatal("two children with the identifier", f.ID)
			}
			ids[f.ID] = true
			visit(h, depth+1)
		}
		if got, ok := x.ByPath(1, x.Path(dir)); !ok || got != dir {
			t.Fatal("the path of", dir, "leads to", got)
		}
	}
	visit(1, 1)
	if len(seen) != x.Count() {
		t.Fatal(len(seen), "files can be reached, and Count is", x.Count())
	}
}
