package tree_test

import (
	"math/rand/v2"
	"slices"
	"testing"

	"smartcard/api"
	"smartcard/cell"
	"smartcard/filehead"
	"smartcard/tree"
	"smartcard/vault"
)

// P4, as far as it reaches the tree

// filled returns a memory, its vault, its tree with some files, and the model of it.
func filled(t *testing.T, r *rand.Rand) (*cell.Memory, *vault.Vault, *tree.Tree, *model) {
	t.Helper()
	mem, v := created(t, 24*(60+r.IntN(100)))
	x, m := opened(t, v), newModel()
	for range 30 {
		c, h, e := randomCall(r, m)
		expectCall(t, x, c, h, e)
	}
	return mem, v, x, m
}

func TestOneWrongBit(t *testing.T) {
	for seed := range uint64(10) {
		r := rand.New(rand.NewPCG(seed, 4))
		mem, _, x, m := filled(t, r)
		for a := range mem.Words() {
			mem.Flip(a, r.IntN(32))
		}
		expectModel(t, x, m)
		expectModel(t, opened(t, mounted(t, mem)), m)
		for range 20 {
			c, h, e := randomCall(r, m)
			expectCall(t, x, c, h, e)
		}
		expectFiles(t, x, m)
		expectFiles(t, opened(t, mounted(t, mem)), m)
	}
}

// expectRightOrNothing compares what a tree still finds; it returns how often it found nothing.
func expectRightOrNothing(t *testing.T, x *tree.Tree, m *model) (nothing int) {
	t.Helper()
	if n := x.Count(); n != 0 && n != len(m.heads) {
		t.Fatal("Count is", n, "and not", len(m.heads))
	}
	for h, f := range m.heads {
		got, ok := x.Header(h)
		dir, in := x.Parent(h)
		if ok && !filehead.Same(got, f) || in && dir != m.parent(h) {
			t.Fatal("the file", h, "is", got, "in", dir)
		}
		if l := x.Children(h); len(l) > 0 && !slices.Equal(l, m.children[h]) {
			t.Fatal("the children of", h, "are", l)
		}
		if c, ok := x.ByPath(1, x.Path(h)); ok && c != h && c != 1 || !ok && c != 0 {
			t.Fatal("the path of", h, "leads to", c)
		}
		if !ok {
			nothing++
		}
	}
	return nothing
}

// TestTwoWrongBits makes words unreadable: calls find what is right, or nothing, and change nothing that they cannot read.
func TestTwoWrongBits(t *testing.T) {
	corrupt, nothing, fine := 0, 0, 0
	for seed := range uint64(150) {
		r := rand.New(rand.NewPCG(seed, 5))
		mem, v, x, m := filled(t, r)
		for range 1 + r.IntN(4) {
			a, bit := r.IntN(mem.Words()), r.IntN(32)
			mem.Flip(a, bit)
			mem.Flip(a, (bit+1+r.IntN(31))%32)
		}
		nothing += expectRightOrNothing(t, x, m)
		c, h, want := randomCall(r, m.copied())
		switch got, e := c(x); e {
		case want:
			fine++
		case api.ErrCorrupt:
			corrupt++
			expectRightOrNothing(t, x, m)
			if v.Active() {
				t.Fatal("there is a transaction")
			}
		default:
			t.Fatal("a call returns", got, e, "and not", h, want)
		}
	}
	if corrupt == 0 || nothing == 0 || fine == 0 {
		t.Error("some of these have never happened, and were not tested:", corrupt, nothing, fine)
	}
}

// TestOpenWithTwoWrongBits mounts the vault again: the files are opened as they were, or not at all.
func TestOpenWithTwoWrongBits(t *testing.T) {
	corrupt, fine := 0, 0
	for seed := range uint64(150) {
		r := rand.New(rand.NewPCG(seed, 6))
		mem, _, x, m := filled(t, r)
		v := mounted(t, mem)
		a, bit := r.IntN(mem.Words()), r.IntN(32)
		mem.Flip(a, bit)
		mem.Flip(a, (bit+1+r.IntN(31))%32)
		y, e := tree.Open(v)
		switch {
		case e == api.OK:
			expectFiles(t, y, m)
			fine++
		case e == api.ErrCorrupt && y == nil:
			corrupt++
		default:
			t.Fatal("Open:", e)
		}
		expectRightOrNothing(t, x, m)
	}
	if corrupt == 0 || fine == 0 {
		t.Error("one of these has never happened:", corrupt, fine)
	}
}

// TestRemoveWithTwoWrongBits makes each word unreadable in its turn: if a file cannot be removed then, nothing has changed, and no transaction remains.
func TestRemoveWithTwoWrongBits(t *testing.T) {
	mem, v := created(t, 60*24)
	x := opened(t, v)
	create(t, x, 1, binary(1, 2), 2)
	expect(t, "Put", v.Put(514, make([]byte, 100)), api.OK) // so that pages are written in which no file lies
	undone := 0
	for a := range mem.Words() {
		c := mem.Clone()
		v := mounted(t, c)
		x := opened(t, v)
		c.Flip(a, a%31)
		c.Flip(a, 31)
		readable := x.Count() == 2
		e := x.Remove(2)
		if e != api.OK && e != api.ErrCorrupt || v.Active() {
			t.Fatal("Remove returns", e, "and there is a transaction:", v.Active())
		}
		if _, ok := v.Get(514); e == api.OK && (ok || x.Count() != 1) {
			t.Fatal("the file was not removed")
		}
		if e == api.ErrCorrupt && readable {
			undone++
			if ids := v.IDs(); !slices.Equal(ids, []int{257, 258, 514}) || x.Count() != 2 {
				t.Fatal("the items are", ids)
			}
		}
	}
	if undone == 0 {
		t.Error("nothing was undone")
	}
}
