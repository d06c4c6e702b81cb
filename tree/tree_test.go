package tree_test

import (
	"bytes"
	"math"
	"slices"
	"testing"

	"smartcard/api"
	"smartcard/cell"
	"smartcard/filehead"
	"smartcard/tree"
	"smartcard/vault"
)

const forever = 1 << 40 // an endurance that no test reaches

// created returns a new memory with a number of words, and its vault.
func created(t *testing.T, words int) (*cell.Memory, *vault.Vault) {
	t.Helper()
	m, v, e := vault.New(api.MemoryConfig{Words: words, Endurance: forever})
	if e != api.OK {
		t.Fatal("New:", e)
	}
	return m, v
}

// mounted returns the vault of a memory.
func mounted(t *testing.T, m *cell.Memory) *vault.Vault {
	t.Helper()
	v, e := vault.Mount(m)
	if e != api.OK {
		t.Fatal("Mount:", e)
	}
	return v
}

// opened returns the tree of a vault.
func opened(t *testing.T, v *vault.Vault) *tree.Tree {
	t.Helper()
	x, e := tree.Open(v)
	if e != api.OK || x == nil {
		t.Fatal("Open:", e)
	}
	return x
}

// fresh returns a new memory, and the vault and the tree on it.
func fresh(t *testing.T) (*cell.Memory, *vault.Vault, *tree.Tree) {
	t.Helper()
	m, v := created(t, 16384)
	return m, v, opened(t, v)
}

func expect(t *testing.T, what string, got, want api.Errno) {
	t.Helper()
	if got != want {
		t.Fatal(what, "returns", got, "and not", want)
	}
}

// create creates a file, which has to get a handle.
func create(t *testing.T, x *tree.Tree, dir int, f api.File, want int) {
	t.Helper()
	if h, e := x.Create(dir, f); h != want || e != api.OK {
		t.Fatal("Create returns", h, e, "and not", want)
	}
}

// expectNot expects that a file is not created.
func expectNot(t *testing.T, x *tree.Tree, dir int, f api.File, want api.Errno) {
	t.Helper()
	if h, e := x.Create(dir, f); h != 0 || e != want {
		t.Fatal("Create returns", h, e, "and not", want)
	}
}

func directory(id int, name string) api.File {
	return api.File{ID: id, Kind: api.FileDF, Name: []byte(name), State: api.FileActive}
}

func binary(id, short int) api.File {
	return api.File{ID: id, Kind: api.FileBinary, Short: short, Size: 4, State: api.FileActive}
}

func linear(id int) api.File {
	return api.File{ID: id, Kind: api.FileLinear, Length: 2, Records: 3, State: api.FileInactive}
}

// largest is a header whose file control parameters are as long as possible.
func largest(id int) api.File {
	f := directory(id, "0123456789abcdef")
	kids := slices.Repeat([]api.Cond{{Op: api.CondState, N: 5}}, 15)
	f.Rules = slices.Repeat([]api.Rule{{Ops: api.OpAll, Cond: api.Cond{Op: api.CondAnd, Kids: kids}}}, 8)
	return f
}

// Examples

func TestExamples(t *testing.T) {
	_, _, x := fresh(t)
	if x.Count() != 1 {
		t.Error(x.Count())
	}
	create(t, x, 1, directory(0x5000, ""), 2)
	create(t, x, 2, binary(1, 0), 3)
	if l := x.Path(3); !slices.Equal(l, []int{0x5000, 1}) {
		t.Error(l)
	}
	expectNot(t, x, 2, linear(1), api.ErrTwice)
	expectNot(t, x, 3, linear(1), api.ErrType)
	expectNot(t, x, 4, linear(1), api.ErrNone)
	expect(t, "Remove", x.Remove(2), api.ErrBusy)
	expect(t, "Remove", x.Remove(3), api.OK)
	expect(t, "Remove", x.Remove(2), api.OK)
	create(t, x, 1, binary(7, 0), 2)
}

// P16.1

func TestOpen(t *testing.T) {
	m, v, x := fresh(t)
	expectModel(t, x, newModel())
	if ids := v.IDs(); !slices.Equal(ids, []int{257}) {
		t.Error("the items are", ids)
	}
	f, ok := x.Header(1)
	if !ok || f.ID != 0x3f00 || f.Kind != api.FileDF || f.State != api.FileActive || len(f.Rules) != 1 || f.Rules[0].Ops != api.OpCreate || f.Rules[0].Cond.Op != api.CondAlways || len(f.Name) > 0 || f.Short+f.Size+f.Length+f.Records != 0 {
		t.Error("the master file is", f)
	}
	create(t, x, 1, directory(5, "a"), 2)
	expect(t, "SetState", x.SetState(1, api.OpDeactivate), api.OK)
	writes := m.Writes()
	y := opened(t, v)
	if m.Writes() != writes || y.Count() != 2 {
		t.Error("Open has changed something:", m.Writes()-writes, y.Count())
	}
	if f, _ := y.Header(1); f.State != api.FileInactive {
		t.Error("the master file is new:", f)
	}
}

func TestErrorsOfOpen(t *testing.T) {
	expectNoTree := func(what string, v *vault.Vault, want api.Errno) {
		t.Helper()
		if x, e := tree.Open(v); x != nil || e != want {
			t.Error("Open of", what, "returns", x, e)
		}
	}
	expectNoTree("nil", nil, api.ErrNil)
	expectNoTree("a vault that is none", &vault.Vault{}, api.ErrNil)
	m, v := created(t, 16384)
	m.Cut(0)
	m.Write(0, 0)
	expectNoTree("a vault without power", v, api.ErrPower)
	m.Restore()
	expectNoTree("a vault that had no power", v, api.ErrPower)
	_, v = created(t, 33*24) // with a room of 24
	expectNoTree("a small vault", v, api.ErrFull)
	if len(v.IDs()) > 0 {
		t.Error("the items are", v.IDs())
	}
}

// TestOpenWithoutBuffer opens the files in a transaction whose buffer is full.
func TestOpenWithoutBuffer(t *testing.T) {
	_, v := created(t, 16384)
	expect(t, "Begin", v.Begin(), api.OK)
	for id := 1000; v.Left() > 8; id++ {
		expect(t, "Put", v.Put(id, make([]byte, min(2000, v.Left()-8))), api.OK)
	}
	mark := v.Save()
	if x, e := tree.Open(v); x != nil || e != api.ErrBuffer || v.Save() != mark {
		t.Error(x, e)
	}
	expect(t, "Abort", v.Abort(), api.OK)
	expectModel(t, opened(t, v), newModel())
}

// TestOpenInATransaction opens the files in a transaction: the master file is one of its changes.
func TestOpenInATransaction(t *testing.T) {
	m, v := created(t, 16384)
	expect(t, "Begin", v.Begin(), api.OK)
	x := opened(t, v)
	expectModel(t, x, newModel())
	create(t, x, 1, directory(5, "a"), 2)
	expect(t, "Abort", v.Abort(), api.OK)
	if x.Count() != 0 || len(v.IDs()) > 0 {
		t.Error(x.Count(), v.IDs())
	}
	expectNot(t, x, 1, directory(5, "a"), api.ErrNone)
	expect(t, "Remove", x.Remove(1), api.ErrNone)
	expect(t, "Begin", v.Begin(), api.OK)
	expectModel(t, opened(t, v), newModel())
	expect(t, "Commit", v.Commit(), api.OK)
	expectModel(t, x, newModel())
	expectModel(t, opened(t, mounted(t, m)), newModel())
}

// expectCorrupt opens the files with another item, and makes calls on a tree that was opened before.
func expectCorrupt(t *testing.T, v *vault.Vault, x *tree.Tree, id int, b []byte) {
	t.Helper()
	expect(t, "Begin", v.Begin(), api.OK)
	expect(t, "Put", v.Put(id, b), api.OK)
	if y, e := tree.Open(v); y != nil || e != api.ErrCorrupt || v.Save() != 1 {
		t.Errorf("Open with %x in the item %d returns %d", b, id, e)
	}
	_, e := x.Create(1, binary(0x1234, 0))
	for _, e := range []api.Errno{e, x.Remove(3), x.SetState(3, api.OpTerminate)} {
		expect(t, "a call", e, api.ErrCorrupt)
	}
	x.Header(id - api.ItemFiles)
	x.Parent(id - api.ItemFiles)
	h, byID := x.ByID(1, 0x5000)
	k, byPath := x.ByPath(1, []int{0x5000, 1})
	if x.Count() != 0 || len(x.Children(1)) > 0 || len(x.Path(3)) > 0 || h != 0 || byID || k != 0 || byPath {
		t.Error("something is found")
	}
	expect(t, "Abort", v.Abort(), api.OK)
}

// TestItemsThatAreNoFiles replaces items by others that no tree writes.
func TestItemsThatAreNoFiles(t *testing.T) {
	_, v, x := fresh(t)
	create(t, x, 1, directory(0x5000, "abc"), 2)
	create(t, x, 2, binary(1, 2), 3)
	create(t, x, 2, directory(2, ""), 4)
	for h := 1; h <= 4; h++ {
		good, _ := v.Get(api.ItemFiles + h)
		for n := range good {
			expectCorrupt(t, v, x, api.ItemFiles+h, good[:n])
		}
		expectCorrupt(t, v, x, api.ItemFiles+h, append(bytes.Clone(good), 0))
		f, _ := x.Header(h)
		b, _ := filehead.Encode(f)
		expectCorrupt(t, v, x, api.ItemFiles+h, b)
		expectCorrupt(t, v, x, api.ItemFiles+h, make([]byte, 40))
	}
	for _, id := range []int{256, 257 + 4, 256 + 50, 256 + 128, 256 + 129, 511} {
		expectCorrupt(t, v, x, id, nil)
		expectCorrupt(t, v, x, id, []byte{1, 2, 3})
	}
	b, _ := v.Get(api.ItemFiles + 2)
	expectCorrupt(t, v, x, api.ItemFiles, b)
	expectCorrupt(t, v, x, api.ItemFiles+129, b)
	expectCorrupt(t, v, x, api.ItemFiles+1, b) // the master file in a directory
	b, _ = v.Get(api.ItemFiles + 1)
	expectCorrupt(t, v, x, api.ItemFiles+2, b) // another file in none
	b, _ = v.Get(api.ItemFiles + 4)            // in the directory 2
	expectCorrupt(t, v, x, api.ItemFiles+2, b) // in itself
	b, _ = v.Get(api.ItemFiles + 3)
	expectCorrupt(t, v, x, api.ItemFiles+2, b) // no directory any more, but in itself, and with children
	opened(t, v)
}

// TestMasterFileThatIsNoDirectory gives the item of another file, with its directory in the first byte, to the master file.
func TestMasterFileThatIsNoDirectory(t *testing.T) {
	_, v, x := fresh(t)
	create(t, x, 1, binary(1, 2), 2)
	b, _ := v.Get(258)
	b[0] = 0
	expect(t, "Remove", x.Remove(2), api.OK)
	expect(t, "Put", v.Put(257, b), api.OK)
	if y, e := tree.Open(v); y != nil || e != api.ErrCorrupt {
		t.Error(e)
	}
}

// TestFilesWithoutDirectory deletes the items of directories, and those of the master file.
func TestFilesWithoutDirectory(t *testing.T) {
	_, v, x := fresh(t)
	create(t, x, 1, directory(0x5000, ""), 2)
	create(t, x, 2, binary(1, 2), 3)
	expect(t, "Delete", v.Delete(258), api.OK)
	if y, e := tree.Open(v); y != nil || e != api.ErrCorrupt {
		t.Error(e)
	}
	expect(t, "Delete", v.Delete(259), api.OK)
	expectModel(t, opened(t, v), newModel())
	create(t, x, 1, directory(0x5000, ""), 2)
	expect(t, "SetState", x.SetState(1, api.OpTerminate), api.OK)
	expect(t, "Delete", v.Delete(257), api.OK)
	expectNot(t, x, 1, binary(1, 2), api.ErrCorrupt)
	m := newModel()
	m.create(1, directory(0x5000, ""))
	expectModel(t, opened(t, v), m) // with a new master file
}

// TestOtherItems is about items that are not of this layer.
func TestOtherItems(t *testing.T) {
	_, v := created(t, 16384)
	for _, id := range []int{1, 16, 192, 255, 512, 513, 640, 1023, 1024, 4096} {
		expect(t, "Put", v.Put(id, []byte{9, 9}), api.OK)
	}
	x := opened(t, v)
	expectModel(t, x, newModel())
	create(t, x, 1, binary(1, 1), 2)
	expect(t, "Remove", x.Remove(2), api.OK)
	if !slices.Equal(v.IDs(), []int{1, 16, 192, 255, 257, 512, 513, 640, 1023, 1024, 4096}) {
		t.Error(v.IDs())
	}
	for _, id := range []int{1, 255, 512, 513, 640, 4096} {
		if b, ok := v.Get(id); !ok || !bytes.Equal(b, []byte{9, 9}) {
			t.Error(id, b, ok)
		}
	}
}

// P16.2

func TestErrorsOfCreate(t *testing.T) {
	_, _, x := fresh(t)
	create(t, x, 1, directory(0x5000, "abc"), 2)
	create(t, x, 2, binary(1, 2), 3)
	create(t, x, 2, linear(4), 4)
	for h := 5; h <= 10; h++ { // of the depths 3 to 8
		create(t, x, []int{2, 5, 6, 7, 8, 9}[h-5], directory(0x7000+h, ""), h)
	}
	for h := 11; h <= 128; h++ {
		create(t, x, 1, binary(0x100+h, 0), h)
	}
	wrong := directory(0, "abc")
	for _, c := range []struct {
		dir int
		f   api.File
		e   api.Errno
	}{
		{0, api.File{}, api.ErrArg},
		{3, wrong, api.ErrRange},
		{1, api.File{ID: 0x5000, Kind: api.FileBinary, Name: []byte("abc"), Size: 1, State: 1}, api.ErrForm},
		{10, api.File{ID: 5, Kind: api.FileDF, Name: make([]byte, 17), State: 1}, api.ErrLong},
		{10, directory(0x3fff, ""), api.ErrRange},
		{10, directory(0xffff, ""), api.ErrRange},
		{3, directory(0x3f00, "abc"), api.ErrArg},
		{0, binary(0x3f00, 1), api.ErrArg},
		{0, directory(0x5000, "abc"), api.ErrNone},
		{-1, directory(0x5000, ""), api.ErrNone},
		{129, binary(1, 1), api.ErrNone},
		{math.MaxInt, binary(1, 1), api.ErrNone},
		{math.MinInt, binary(1, 1), api.ErrNone},
		{-255, binary(1, 1), api.ErrNone}, // the item of this one would be that of the layer below
		{3, directory(1, "abc"), api.ErrType},
		{128, binary(1, 1), api.ErrType},
		{10, directory(1, "abc"), api.ErrRange},
		{10, binary(1, 1), api.ErrRange},
		{9, directory(0x700a, ""), api.ErrTwice},
		{2, binary(1, 0), api.ErrTwice},
		{2, directory(4, ""), api.ErrTwice},
		{2, binary(6, 2), api.ErrTwice},
		{8, directory(6, "abc"), api.ErrTwice},
		{1, directory(6, "abc"), api.ErrTwice},
		{9, directory(6, ""), api.ErrFull},
		{1, binary(1, 2), api.ErrFull},
		{2, binary(6, 1), api.ErrFull},
		{9, directory(0x5000, "ab"), api.ErrFull},
		{9, directory(0x5000, "abcd"), api.ErrFull},
	} {
		expectNot(t, x, c.dir, c.f, c.e)
	}
	if x.Count() != 128 || len(x.Children(1)) != 119 {
		t.Error(x.Count(), len(x.Children(1)))
	}
	expect(t, "Remove", x.Remove(77), api.OK)
	create(t, x, 9, directory(6, ""), 77)
	expectNot(t, x, 77, directory(6, ""), api.ErrRange)
	expectStructure(t, x)
}

// TestLeastHandles removes files in some order: the handles are given again, but new files are the last children.
func TestLeastHandles(t *testing.T) {
	m, v, x := fresh(t)
	for h := 2; h <= 9; h++ {
		create(t, x, 1, binary(h, 0), h)
	}
	for _, h := range []int{7, 2, 5, 9} {
		expect(t, "Remove", x.Remove(h), api.OK)
	}
	for i, h := range []int{2, 5, 7, 9, 10} {
		create(t, x, 1, binary(0x20-i, 0), h)
	}
	for _, x := range []*tree.Tree{x, opened(t, v), opened(t, mounted(t, m))} {
		if l := x.Children(1); !slices.Equal(l, []int{3, 4, 6, 8, 2, 5, 7, 9, 10}) {
			t.Error(l)
		}
	}
	for range 300 { // the first child becomes the last one, again and again
		h := x.Children(1)[0]
		f, _ := x.Header(h)
		expect(t, "Remove", x.Remove(h), api.OK)
		create(t, x, 1, f, h)
		if l := x.Children(1); l[8] != h || len(l) != 9 {
			t.Fatal(h, l)
		}
	}
}

// TestGreatTurns is about what only happens after very many calls: the item of a file tells when it was created, in its second to fifth byte.
func TestGreatTurns(t *testing.T) {
	_, v, x := fresh(t)
	create(t, x, 1, binary(1, 0), 2)
	for _, turn := range [][]byte{{0, 0, 0, 255}, {0, 0, 255, 255}, {0, 1, 255, 255}, {0, 255, 255, 255}, {3, 255, 255, 255}, {0x7f, 255, 255, 254}} {
		b, _ := v.Get(258)
		copy(b[1:], turn)
		expect(t, "Put", v.Put(258, b), api.OK)
		create(t, x, 1, binary(2, 0), 3)
		create(t, x, 1, binary(3, 0), 4)
		if l := x.Children(1); !slices.Equal(l, []int{2, 3, 4}) {
			t.Error(turn, l)
		}
		expect(t, "Remove", x.Remove(3), api.OK)
		expect(t, "Remove", x.Remove(4), api.OK)
	}
}

// TestSizesOfItems is about the number of bytes of items, and about which items there are.
func TestSizesOfItems(t *testing.T) {
	_, v, x := fresh(t)
	create(t, x, 1, largest(5), 2)
	for h := 3; h <= 8; h++ {
		create(t, x, h-1, directory(h, ""), h)
	}
	create(t, x, 2, linear(77), 9)
	if !slices.Equal(v.IDs(), []int{257, 258, 259, 260, 261, 262, 263, 264, 265}) {
		t.Error(v.IDs())
	}
	for h := 1; h <= 9; h++ {
		f, _ := x.Header(h)
		b, e := filehead.Encode(f)
		item, _ := v.Get(api.ItemFiles + h)
		if e != api.OK || len(item) > len(b)+64 {
			t.Error("the item of", f, "has", len(item), "bytes, and its parameters", len(b))
		}
	}
}

// TestHeadersAreNew changes arguments and results.
func TestHeadersAreNew(t *testing.T) {
	_, _, x := fresh(t)
	f := largest(5)
	f.Name, f.Rules[0].Cond.Kids = []byte("abc"), []api.Cond{{Op: api.CondPin, N: 1}}
	create(t, x, 1, f, 2)
	want, _ := x.Header(2)
	f.Name[0], f.Rules[0].Cond.Kids[0].N, f.Rules[1].Ops = 'x', 2, 1
	g, _ := x.Header(2)
	g.Name[1], g.Rules[0].Cond.Kids[0].N, g.Rules[2].Ops = 'x', 3, 1
	if again, _ := x.Header(2); !filehead.Same(again, want) || string(again.Name) != "abc" || again.Rules[0].Cond.Kids[0].N != 1 {
		t.Error(again)
	}
	x.Children(1)[0] = 7
	x.Path(2)[0] = 7
	if x.Children(1)[0] != 2 || x.Path(2)[0] != 5 {
		t.Error(x.Children(1), x.Path(2))
	}
}

// P16.3

func TestRemove(t *testing.T) {
	_, v, x := fresh(t)
	create(t, x, 1, directory(5, "a"), 2)
	create(t, x, 2, binary(6, 1), 3)
	create(t, x, 1, binary(6, 1), 4)
	for _, h := range []int{0, -1, 5, 129, -255, math.MaxInt, math.MinInt} {
		expect(t, "Remove", x.Remove(h), api.ErrNone)
	}
	expect(t, "Remove", x.Remove(1), api.ErrState) // before its children matter
	expect(t, "Remove", x.Remove(2), api.ErrBusy)
	for id := 513; id <= 517; id++ {
		expect(t, "Put", v.Put(id, []byte{byte(id)}), api.OK)
	}
	expect(t, "Remove", x.Remove(3), api.OK)
	if !slices.Equal(v.IDs(), []int{257, 258, 260, 513, 514, 516, 517}) {
		t.Error(v.IDs())
	}
	expect(t, "Remove", x.Remove(3), api.ErrNone)
	expect(t, "Remove", x.Remove(2), api.OK)
	expect(t, "Remove", x.Remove(4), api.OK)
	if !slices.Equal(v.IDs(), []int{257, 513, 517}) || x.Count() != 1 {
		t.Error(v.IDs(), x.Count())
	}
	expect(t, "Remove", x.Remove(1), api.ErrState)
	if v.Active() {
		t.Error("there is a transaction")
	}
}

// TestRemoveInATransaction removes a file with a content, with more or less room in the buffer: both items are deleted, or none.
func TestRemoveInATransaction(t *testing.T) {
	_, v, x := fresh(t)
	create(t, x, 1, binary(6, 1), 2)
	expect(t, "Put", v.Put(514, []byte{1, 2, 3}), api.OK)
	for left := range 40 {
		expect(t, "Begin", v.Begin(), api.OK)
		for id := 1000; v.Left() > left; id++ {
			n := min(2000, v.Left()-left-8)
			if rest := v.Left() - left - 8 - n; rest > 0 && rest < 8 {
				n -= 8
			}
			expect(t, "Put", v.Put(id, make([]byte, n)), api.OK)
		}
		mark, want := v.Save(), api.OK
		if left < 16 {
			want = api.ErrBuffer
		}
		expect(t, "Remove", x.Remove(2), want)
		b, ok := v.Get(514)
		if want == api.OK && (ok || x.Count() != 1 || v.Save() != mark+2 || v.Left() != left-16) {
			t.Error("not removed:", ok, x.Count(), v.Save()-mark, v.Left())
		}
		if want != api.OK && (!ok || len(b) != 3 || x.Count() != 2 || v.Save() != mark || v.Left() != left) {
			t.Error("not undone:", ok, x.Count(), v.Save()-mark, v.Left())
		}
		expect(t, "Abort", v.Abort(), api.OK)
		if _, ok := v.Get(514); !ok || x.Count() != 2 {
			t.Error("removed in spite of Abort")
		}
	}
}

// TestChangesWithoutBuffer is about the other changes in a transaction whose buffer is full.
func TestChangesWithoutBuffer(t *testing.T) {
	_, v, x := fresh(t)
	create(t, x, 1, binary(6, 1), 2)
	expect(t, "Begin", v.Begin(), api.OK)
	for id := 1000; v.Left() > 8; id++ {
		expect(t, "Put", v.Put(id, make([]byte, min(2000, v.Left()-8))), api.OK)
	}
	m := newModel()
	m.create(1, binary(6, 1))
	expectNot(t, x, 1, binary(7, 2), api.ErrBuffer)
	expect(t, "SetState", x.SetState(2, api.OpTerminate), api.ErrBuffer)
	expectModel(t, x, m)
}

// TestFullVault is about a vault without room for another file.
func TestFullVault(t *testing.T) {
	_, v := created(t, 40*24) // with a room of 192
	x := opened(t, v)
	m := newModel()
	n := 0
	for ; ; n++ {
		before := m.copied()
		want, _ := m.create(1, binary(10+n, 0))
		h, e := x.Create(1, binary(10+n, 0))
		if e == api.ErrFull {
			m = before
			break
		}
		if e != api.OK || h != want {
			t.Fatal(h, e)
		}
	}
	if n < 2 || n > 10 {
		t.Error(n)
	}
	expectModel(t, x, m)
	expect(t, "SetState", x.SetState(2, api.OpTerminate), api.OK)
	expect(t, "Remove", x.Remove(2), api.OK)
	create(t, x, 1, binary(9, 0), 2)
}

// P16.4

func TestSetState(t *testing.T) {
	_, _, x := fresh(t)
	create(t, x, 1, binary(6, 1), 2)
	create(t, x, 1, linear(7), 3)
	for h, state := range map[int]int{1: api.FileActive, 2: api.FileActive, 3: api.FileInactive} {
		for _, op := range []int{api.OpActivate, api.OpDeactivate, api.OpDeactivate, api.OpActivate, api.OpActivate, 0, 1, 96, 255, -1, api.OpDeactivate, api.OpTerminate, api.OpActivate, api.OpTerminate, api.OpDeactivate} {
			before, _ := x.Header(h)
			next, e := filehead.Next(state, op)
			if got := x.SetState(h, op); got != e {
				t.Fatal(h, state, op, got, e)
			}
			if e == api.OK {
				state = next
			}
			before.State = state
			if f, ok := x.Header(h); !ok || !filehead.Same(f, before) {
				t.Fatal(f, before)
			}
		}
	}
	if l := x.Children(1); !slices.Equal(l, []int{2, 3}) {
		t.Error(l)
	}
	for _, h := range []int{0, -1, 4, 129, 255, 256, math.MaxInt, math.MinInt} {
		expect(t, "SetState", x.SetState(h, 0), api.ErrNone)
	}
}

// P16.5 to P16.7

func TestFindingNothing(t *testing.T) {
	_, v, x := fresh(t)
	create(t, x, 1, directory(0x5000, "abc"), 2)
	create(t, x, 2, binary(1, 2), 3)
	b, _ := v.Get(258)
	for _, h := range []int{0, -1, 4, 129, 255, -256, math.MaxInt, math.MinInt, math.MaxInt - 256} {
		f, ok := x.Header(h)
		dir, in := x.Parent(h)
		_, byID := x.ByID(h, 0x5000)
		_, byShort := x.ByShort(h, 2)
		byPath, found := x.ByPath(h, nil)
		if ok || !filehead.Same(f, api.File{}) || dir != 0 || in || len(x.Children(h)) > 0 || byID || byShort || len(x.Path(h)) > 0 || byPath != 0 || found {
			t.Error("there is a file", h)
		}
	}
	for _, dir := range []int{0, 3} { // the master file is in no directory, not even in 0
		if h, ok := x.ByID(dir, 0x3f00); ok || h != 0 {
			t.Error(dir, h)
		}
	}
	if h, ok := x.ByShort(1, 0); ok || h != 0 {
		t.Error("a child without a short identifier is found:", h)
	}
	if h, ok := x.ByPath(1, slices.Repeat([]int{0x5000}, 1<<20)); ok || h != 0 {
		t.Error("a long path leads to", h)
	}
	for _, after := range []int{2, 3, 128, math.MaxInt} {
		if h, ok := x.ByName([]byte("abc"), after); ok || h != 0 {
			t.Error("after", after, h)
		}
	}
	for _, after := range []int{1, 0, -1, math.MinInt} {
		if h, ok := x.ByName([]byte("ab"), after); !ok || h != 2 {
			t.Error("after", after, h)
		}
	}
	if again, _ := v.Get(258); !bytes.Equal(b, again) {
		t.Error("a search has changed something")
	}
}

func TestSearches(t *testing.T) {
	_, _, x := fresh(t)
	m := newModel()
	for _, c := range []struct {
		dir int
		f   api.File
	}{
		{1, directory(0x5000, "abc")}, {2, binary(1, 2)}, {2, directory(2, "ab")}, {4, binary(1, 2)}, {1, binary(1, 2)}, {4, directory(0x5000, "")},
		{7, directory(0x5000, "abcd")}, {8, binary(0x5000, 1)}, {1, directory(2, "b")}, {10, linear(3)}, {10, binary(0x7f10, 3)},
	} {
		want, _ := m.create(c.dir, c.f)
		create(t, x, c.dir, c.f, want)
	}
	expectModel(t, x, m)
	for _, c := range []struct {
		dir  int
		path []int
		want int
	}{
		{1, []int{0x5000, 2, 0x5000, 0x5000, 0x5000}, 9},
		{4, []int{0x5000}, 7},
		{4, []int{0x5000, 0x5000, 0x5000, 0x5000}, 0},
		{1, []int{2, 1}, 0},
		{1, []int{1, 2}, 0},
		{3, []int{0x5000}, 0},
		{3, nil, 3},
		{1, []int{}, 1},
		{1, []int{0x3f00}, 0},
		{2, []int{0x3f00, 0x5000}, 0},
	} {
		if h, ok := x.ByPath(c.dir, c.path); h != c.want || ok != (c.want > 0) {
			t.Error("ByPath", c.dir, c.path, "leads to", h, ok)
		}
	}
	for _, after := range []int{0, 1, 2, 4, 8} {
		h, ok := x.ByName([]byte("ab"), after)
		want := map[int]int{0: 2, 1: 2, 2: 4, 4: 8}[after]
		if h != want || ok != (want > 0) {
			t.Error("ByName after", after, "finds", h)
		}
	}
}

// P16.8

func TestCount(t *testing.T) {
	_, v, x := fresh(t)
	for h := 2; h <= 128; h++ {
		create(t, x, 1, binary(h, 0), h)
		if x.Count() != h {
			t.Fatal(x.Count(), h)
		}
	}
	if v.Used() >= v.Room() {
		t.Error("the vault is full")
	}
	expect(t, "Remove", x.Remove(5), api.OK)
	if x.Count() != 127 {
		t.Error(x.Count())
	}
}

// Objects

// TestTwoTrees opens the files of a vault twice.
func TestTwoTrees(t *testing.T) {
	_, v, x := fresh(t)
	y := opened(t, v)
	m := newModel()
	m.create(1, directory(5, "a"))
	m.create(2, binary(6, 1))
	create(t, x, 1, directory(5, "a"), 2)
	create(t, y, 2, binary(6, 1), 3)
	expectModel(t, x, m)
	expectModel(t, y, m)
	expect(t, "Begin", v.Begin(), api.OK)
	expect(t, "Remove", x.Remove(3), api.OK)
	expect(t, "Remove", y.Remove(2), api.OK)
	expectModel(t, x, newModel())
	expectModel(t, y, newModel())
	expect(t, "Abort", v.Abort(), api.OK)
	expectModel(t, y, m)
}

// expectUnusable makes all calls of a tree that cannot be used.
func expectUnusable(t *testing.T, x *tree.Tree, want api.Errno) {
	t.Helper()
	for _, f := range []api.File{{}, directory(0x3f00, ""), directory(5, "a")} {
		expectNot(t, x, 1, f, want)
	}
	for _, h := range []int{1, 2, 3, 99} {
		expect(t, "Remove", x.Remove(h), want)
		expect(t, "SetState", x.SetState(h, api.OpTerminate), want)
		expect(t, "SetState", x.SetState(h, 0), want)
		f, ok := x.Header(h)
		dir, in := x.Parent(h)
		byID, isID := x.ByID(1, 0x5000)
		byShort, isShort := x.ByShort(2, 1)
		byName, isName := x.ByName(nil, 0)
		byPath, isPath := x.ByPath(h, nil)
		if ok || in || isID || isShort || isName || isPath || dir+byID+byShort+byName+byPath+x.Count() != 0 || !filehead.Same(f, api.File{}) || len(x.Children(h))+len(x.Path(h)) > 0 {
			t.Fatal("something is found of the file", h)
		}
	}
}

func TestNoTree(t *testing.T) {
	expectUnusable(t, nil, api.ErrNil)
	expectUnusable(t, &tree.Tree{}, api.ErrNil)
}
