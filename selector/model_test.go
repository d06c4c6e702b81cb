package selector_test

import (
	"bytes"
	"maps"
	"math/rand/v2"
	"slices"
	"testing"

	"smartcard/api"
	"smartcard/selector"
	"smartcard/tree"
)

// model is files, each with its directory, and what is current, as the document defines them.
type model struct {
	heads     map[int]api.File
	dirs      map[int]int // 0 for the master file
	dir, file int
}

func newModel() *model {
	return &model{map[int]api.File{1: directory(0x3f00, "")}, map[int]int{1: 0}, 1, 0}
}

func (m *model) isDir(h int) bool { return m.heads[h].Kind == api.FileDF }

// search returns the least handle of a file that is searched for, 0 if there is none.
func (m *model) search(fits func(h int, f api.File) bool) int {
	for _, h := range slices.Sorted(maps.Keys(m.heads)) {
		if fits(h, m.heads[h]) {
			return h
		}
	}
	return 0
}

// child returns the child of a directory with an identifier, 0 if there is none.
func (m *model) child(dir, id int) int {
	return m.search(func(h int, f api.File) bool { return dir > 0 && m.dirs[h] == dir && f.ID == id })
}

func (m *model) refresh() {
	if !m.isDir(m.dir) {
		m.dir, m.file = 1, 0
	}
	if m.dirs[m.file] != m.dir || m.isDir(m.file) {
		m.file = 0
	}
}

// enter makes a file current, if it is one.
func (m *model) enter(h int) (int, api.Errno) {
	switch {
	case h == 0:
		return 0, api.ErrNone
	case m.isDir(h):
		m.dir, m.file = h, 0
	default:
		m.dir, m.file = m.dirs[h], h
	}
	return h, api.OK
}

func (m *model) selects(p1, p2 int, data []byte) (int, api.Errno) {
	m.refresh()
	if !bytes.Contains([]byte{0, 1, 2, 3, 4, 8, 9}, []byte{byte(p1)}) || p2%4 != 0 && (p2%4 != 2 || p1 != 4) || p2 > 15 {
		return 0, api.ErrArg
	}
	n := len(data)
	if map[int]bool{0: n != 0 && n != 2, 1: n != 2, 2: n != 2, 3: n != 0, 4: n < 1 || n > 16, 8: n < 2 || n > 16 || n%2 > 0, 9: n < 2 || n > 16 || n%2 > 0}[p1] {
		return 0, api.ErrForm
	}
	return m.enter(m.find(p1, p2, data))
}

// find returns the file that valid arguments of Select describe, 0 if there is none.
func (m *model) find(p1, p2 int, data []byte) int {
	id := 0
	if len(data) >= 2 {
		id = int(data[0])*256 + int(data[1])
	}
	child := m.child(m.dir, id)
	switch {
	case p1 == 0 && (len(data) == 0 || id == 0x3f00):
		return 1
	case p1 == 0 && child > 0, p1 == 1 && m.isDir(child), p1 == 2 && !m.isDir(child):
		return child
	case p1 == 0 && m.heads[m.dir].ID == id:
		return m.dir
	case p1 == 0 && m.heads[m.dirs[m.dir]].ID == id, p1 == 3:
		return m.dirs[m.dir]
	case p1 == 4:
		return m.search(func(h int, f api.File) bool {
			return (p2&2 == 0 || h > m.dir) && len(f.Name) > 0 && bytes.HasPrefix(f.Name, data)
		})
	case p1 >= 8:
		h := 1
		if p1 == 9 {
			h = m.dir
		}
		for ; len(data) > 0; data = data[2:] {
			h = m.child(h, int(data[0])*256+int(data[1]))
		}
		return h
	}
	return 0
}

func (m *model) short(n int) (int, api.Errno) {
	m.refresh()
	if n < 1 || n > 30 {
		return 0, api.ErrRange
	}
	return m.enter(m.search(func(h int, f api.File) bool { return m.dirs[h] == m.dir && f.Short == n }))
}

var (
	someIDs   = []int{1, 2, 3, 0x5000, 0x5001, 0x7f10}
	someNames = []string{"", "a", "ab", "abc", "b", "0123456789abcdef"}
)

// changeFiles creates or removes a file.
func changeFiles(t *testing.T, r *rand.Rand, x *tree.Tree, m *model) {
	t.Helper()
	known := slices.Sorted(maps.Keys(m.heads))
	h := known[r.IntN(len(known))]
	if r.IntN(3) == 0 {
		if x.Remove(h) == api.OK {
			delete(m.heads, h)
			delete(m.dirs, h)
		}
		return
	}
	f := binary(someIDs[r.IntN(len(someIDs))], r.IntN(4))
	if r.IntN(2) == 0 {
		f = directory(f.ID, someNames[r.IntN(len(someNames))])
	}
	if got, e := x.Create(h, f); e == api.OK {
		m.heads[got], m.dirs[got] = f, h
	}
}

// randomData returns data for a value of P1, which are not valid now and then.
func randomData(r *rand.Rand, p1 int) []byte {
	var b []byte
	n := map[int]int{0: r.IntN(3), 1: 1, 2: 1, 8: 1 + r.IntN(4), 9: 1 + r.IntN(3)}[p1]
	if r.IntN(20) == 0 {
		n = r.IntN(10)
	}
	for range n {
		id := someIDs[r.IntN(len(someIDs))]
		if r.IntN(15) == 0 {
			id = 0x3f00
		}
		b = append(b, byte(id>>8), byte(id))
	}
	if p1 == 4 && r.IntN(20) > 0 {
		b = []byte(someNames[r.IntN(len(someNames))])
	}
	if r.IntN(30) == 0 {
		b = append(b, 5)
	}
	return b
}

// call is a call of a selector, or of the model.
type call struct {
	kind, p1, p2 int
	data         []byte
}

func randomCall(r *rand.Rand) call {
	p1 := []int{0, 1, 2, 3, 4, 8, 9}[r.IntN(7)]
	p2 := 4 * r.IntN(4)
	if p1 == 4 {
		p2 += 2 * r.IntN(2)
	}
	if r.IntN(20) == 0 {
		p1, p2 = r.IntN(12), r.IntN(20)
	}
	return call{r.IntN(12), p1, p2, randomData(r, p1)}
}

// do makes a call of a selector.
func (c call) do(s *selector.Selector) (int, api.Errno) {
	switch c.kind {
	case 0:
		s.Refresh()
	case 1:
		s.Reset()
	case 2, 3, 4:
		return s.Short(c.p2 / 2)
	default:
		return s.Select(c.p1, c.p2, c.data)
	}
	return 0, api.OK
}

// model makes a call of the model.
func (c call) model(m *model) (int, api.Errno) {
	switch c.kind {
	case 0:
		m.refresh()
	case 1:
		m.dir, m.file = 1, 0
	case 2, 3, 4:
		return m.short(c.p2 / 2)
	default:
		return m.selects(c.p1, c.p2, c.data)
	}
	return 0, api.OK
}

// expectCall makes a call on both.
func expectCall(t *testing.T, s *selector.Selector, m *model, c call) (int, api.Errno) {
	t.Helper()
	before := *m
	h, e := c.do(s)
	want, wantE := c.model(m)
	dir, file := s.Current()
	if h != want || e != wantE || dir != m.dir || file != m.file {
		t.Fatal(c, "at", before.dir, before.file, "returns", h, e, "and leads to", dir, file, "and not", want, wantE, m.dir, m.file)
	}
	return h, e
}

// expectInvariant checks what holds after each call.
func expectInvariant(t *testing.T, s *selector.Selector, x *tree.Tree) {
	t.Helper()
	dir, file := s.Current()
	if f, ok := x.Header(dir); !ok || f.Kind != api.FileDF {
		t.Fatal("the current directory is", dir, f, ok)
	}
	f, ok := x.Header(file)
	if in, _ := x.Parent(file); file != 0 && (!ok || f.Kind == api.FileDF || in != dir) {
		t.Fatal("the current file is", file, f, ok, "in", in)
	}
}

// P18.1 to P18.3, and P18.5

// TestModel makes random calls of selectors, and changes of the tree, in transactions and outside.
func TestModel(t *testing.T) {
	count := map[api.Errno]int{}
	handles := map[int]int{} // how often a file was selected, by P1
	for seed := range uint64(12) {
		r := rand.New(rand.NewPCG(seed, 18))
		c, m := newCard(t), newModel()
		s := created(t, c.t)
		for range 800 {
			if r.IntN(6) == 0 {
				changeFiles(t, r, c.t, m)
				expectCurrent(t, s, m.dir, m.file)
				continue
			}
			x := randomCall(r)
			h, e := expectCall(t, s, m, x)
			expectInvariant(t, s, c.t)
			count[e]++
			if h > 1 && x.kind > 4 {
				handles[x.p1]++
			}
		}
	}
	for _, e := range []api.Errno{api.OK, api.ErrArg, api.ErrForm, api.ErrNone, api.ErrRange} {
		if count[e] < 50 {
			t.Error("the result", e, "occurred", count[e], "times")
		}
	}
	for _, p1 := range []int{0, 1, 2, 3, 4, 8, 9} {
		if handles[p1] < 20 {
			t.Error("with the value", p1, "of P1", handles[p1], "files were selected")
		}
	}
}

// P4, as far as it reaches the selector

// TestOneWrongBit selects files of a memory of which each word has a wrong bit.
func TestOneWrongBit(t *testing.T) {
	for seed := range uint64(6) {
		r := rand.New(rand.NewPCG(seed, 23))
		c, m := newCard(t), newModel()
		for range 40 {
			changeFiles(t, r, c.t, m)
		}
		for a := range c.mem.Words() {
			c.mem.Flip(a, r.IntN(32))
		}
		s := created(t, c.t)
		for range 100 {
			expectCall(t, s, m, randomCall(r))
		}
	}
}

// TestTwoWrongBits makes a word unreadable while a file is current: calls find what is right, or nothing, and what is current is what was found, or the master file.
func TestTwoWrongBits(t *testing.T) {
	right, nothing := 0, 0
	for seed := range uint64(60) {
		r := rand.New(rand.NewPCG(seed, 24))
		c, m := newCard(t), newModel()
		for range 40 {
			changeFiles(t, r, c.t, m)
		}
		s := created(t, c.t)
		for range 20 {
			expectCall(t, s, m, randomCall(r))
		}
		a, bit := r.IntN(700), r.IntN(32)
		c.mem.Flip(a, bit)
		c.mem.Flip(a, (bit+1+r.IntN(31))%32)
		for range 30 {
			x := randomCall(r)
			after := *m
			h, e := x.do(s)
			want, wantE := x.model(&after)
			dir, file := s.Current()
			switch {
			case h == want && e == wantE && dir == after.dir && file == after.file:
				m = &after
				right++
			case e == wantE && h == 0 || e == api.ErrNone || e == api.ErrPower:
				m.dir, m.file = dir, file
				m.refresh()
				if m.dir != dir || m.file != file && file != 0 {
					t.Fatal(x, "leads to", dir, file)
				}
				nothing++
			default:
				t.Fatal(x, "returns", h, e, "and not", want, wantE)
			}
		}
	}
	if right == 0 || nothing == 0 {
		t.Error("one of these has never happened:", right, nothing)
	}
}

// spread returns a card with the directory 2, in it the directory 3, and in that the file 4, all with the identifier 5000; no two of them lie near each other in the memory.
func spread(t *testing.T) *card {
	t.Helper()
	c := newCard(t)
	for i, f := range []api.File{directory(0x5000, ""), directory(0x5000, ""), binary(0x5000, 1)} {
		expect(t, "Put", c.v.Put(2000+i, make([]byte, 200)), api.OK)
		create(t, c.t, i+1, f, i+2)
	}
	return c
}

// TestUnreadableFiles makes each word unreadable in its turn, where a child, its directory and the parent of that have the same identifier: none of them is taken for another one, and no directory for an elementary file.
func TestUnreadableFiles(t *testing.T) {
	c := spread(t)
	child, parent := map[api.Errno]int{}, map[api.Errno]int{}
	for a := range c.mem.Words() / 8 {
		d := mounted(t, c.mem.Clone())
		s, p := created(t, d.t), created(t, d.t)
		selects(t, s, 8, 0, []byte{0x50, 0, 0x50, 0}, 3)
		selects(t, p, 8, 0, []byte{0x50, 0, 0x50, 0}, 3)
		d.mem.Flip(a, a%31)
		d.mem.Flip(a, 31)
		h, e := s.Select(0, 0, []byte{0x50, 0})
		if e == api.OK && h != 4 {
			t.Fatal("Select returns", h)
		}
		child[e]++
		before, _ := p.Current()
		h, e = p.Select(3, 0, nil)
		dir, file := p.Current()
		if e == api.OK && (h != 2 || dir != 2 || file != 0) || e != api.OK && (dir != before && dir != 1 || file != 0) {
			t.Fatal("Select of the parent returns", h, e, "and leads to", dir, file)
		}
		parent[e]++
	}
	for _, e := range []api.Errno{api.OK, api.ErrNone, api.ErrPower} {
		if child[e] == 0 || parent[e] == 0 {
			t.Error("the result", e, "has not happened for both:", child, parent)
		}
	}
}
