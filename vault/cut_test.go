package vault_test

import (
	"bytes"
	"maps"
	"math"
	"math/rand/v2"
	"testing"

	"smartcard/api"
	"smartcard/cell"
	"smartcard/vault"
)

// restored returns the vault of a memory after a cut, with the items from before or after a call, and whether it is those from after.
func restored(t *testing.T, m *cell.Memory, before, after map[int][]byte) (*vault.Vault, bool) {
	t.Helper()
	m.Restore()
	v := mounted(t, m)
	got := map[int][]byte{}
	for _, id := range v.IDs() {
		got[id], _ = v.Get(id)
	}
	expectNumbers(t, v, weight(got), 0, 4096)
	if v.Active() {
		t.Fatal("a vault that was mounted has a transaction")
	}
	if maps.EqualFunc(got, after, bytes.Equal) {
		return v, true
	}
	if !maps.EqualFunc(got, before, bytes.Equal) {
		t.Fatalf("neither before nor after:\n%x\n%x\n%x", got, before, after)
	}
	return v, false
}

// mountCut mounts a vault, or tries to, while a cut is pending after n writes of the memory. There is power afterwards.
func mountCut(t *testing.T, m *cell.Memory, n int) {
	t.Helper()
	m.Cut(n)
	if v, e := vault.Mount(m); (e != api.OK || v == nil) && (e != api.ErrPower || v != nil) {
		t.Fatal("Mount with a cut:", e)
	}
	m.Restore()
}

// cutCalls makes calls on the vault of a memory, the last one with a cut before each of its writes, or some of them, each time on a clone. It returns the number of writes without a cut.
func cutCalls(t *testing.T, m *cell.Memory, items map[int][]byte, step int, l ...api.VaultOp) int {
	t.Helper()
	for n := 0; ; n += step {
		c := m.Clone()
		v := mounted(t, c)
		x := &model{room: v.Room(), items: items}
		for _, o := range l[:len(l)-1] {
			onBoth(t, v, x, api.VaultOp{Op: o.Op, ID: o.ID, Data: bytes.Clone(o.Data)})
		}
		before, start := x.items, c.Writes()
		last := l[len(l)-1]
		expect(t, "the model", x.do(last), api.OK)
		c.Cut(n)
		e := do(v, last)
		if e == api.OK {
			expectModel(t, v, x)
			restored(t, c, x.items, x.items)
			return c.Writes() - start
		}
		expect(t, "a call with a cut", e, api.ErrPower)
		expectDead(t, v, api.ErrPower, api.ErrArg)
		c.Restore()
		mountCut(t, c, n%5)
		w, after := restored(t, c, before, x.items)
		if !after {
			x.items = before
		}
		goOn(t, c, w, x.items, n)
	}
}

// goOn makes other calls after a cut.
func goOn(t *testing.T, m *cell.Memory, v *vault.Vault, items map[int][]byte, seed int) {
	t.Helper()
	x := &model{room: v.Room(), items: items}
	r := rand.New(rand.NewPCG(uint64(seed), 4))
	for range 5 {
		onBoth(t, v, x, randomOp(r, x))
	}
	expectModel(t, v, x)
	expectModel(t, mounted(t, m), &model{room: v.Room(), items: x.items})
}

func put(id int, b []byte) api.VaultOp { return api.VaultOp{Op: api.VaultPut, ID: id, Data: b} }

func now(id int, b []byte) api.VaultOp { return api.VaultOp{Op: api.VaultNow, ID: id, Data: b} }

func gone(id int) api.VaultOp { return api.VaultOp{Op: api.VaultDelete, ID: id} }

var (
	begin  = api.VaultOp{Op: api.VaultBegin}
	commit = api.VaultOp{Op: api.VaultCommit}
)

// carryOut makes calls on a vault and the model, and ends a transaction that they have left.
func carryOut(t *testing.T, v *vault.Vault, x *model, l ...api.VaultOp) {
	t.Helper()
	for _, o := range l {
		onBoth(t, v, x, api.VaultOp{Op: o.Op, ID: o.ID, Data: bytes.Clone(o.Data)})
	}
	if x.active {
		onBoth(t, v, x, api.VaultOp{Op: api.VaultAbort})
	}
}

// P13.8

func TestCutsInASmallVault(t *testing.T) {
	m, v := created(t, 40) // with a room of 192
	x := &model{room: 192, items: map[int][]byte{}}
	for range 3 {
		for _, l := range [][]api.VaultOp{
			{put(1, pattern(1, 60))},
			{put(2, pattern(2, 84))},
			{begin, put(2, pattern(3, 83)), put(1, pattern(4, 61)), commit},
			{begin, gone(1), put(3, pattern(5, 61)), gone(2), put(4, pattern(6, 83)), put(5, nil), gone(5), commit},
			{begin, gone(3), now(4, pattern(7, 70))},
			{gone(3)},
			{put(3, pattern(8, 50))},
			{begin, put(3, pattern(9, 61)), gone(4), now(5, pattern(1, 13))},
			{begin, put(4, pattern(9, 50)), gone(3), put(6, nil), commit},
			{begin, gone(4), gone(6), gone(5), commit},
		} {
			cutCalls(t, m, x.items, 1, l...)
			carryOut(t, v, x, l...)
		}
		expectItems(t, v, nil)
	}
}

// TestCutsInAFullVault is about items that leave no room, so that there is little space for what changes.
func TestCutsInAFullVault(t *testing.T) {
	m, v := created(t, 45) // with a room of 312
	x := &model{room: 312, items: map[int][]byte{}}
	carryOut(t, v, x, put(1, pattern(1, 100)), put(2, pattern(2, 50)), put(3, pattern(3, 20)), put(4, nil), put(5, pattern(4, 62)))
	least, most := math.MaxInt, 0
	for n := range 12 {
		o := put(5-n%2*2, pattern(n, 62-n%2*42))
		writes := cutCalls(t, m, x.items, 1, o)
		least, most = min(least, writes), max(most, writes)
		carryOut(t, v, x, o)
	}
	if most < 2*least {
		t.Error("all calls had the same to do, so that making space was perhaps not tried:", least, most)
	}
}

func TestCutsOfALargeCommit(t *testing.T) {
	m, v := created(t, 32+4*4200/48) // with a room of 8400
	x := &model{room: 8400, items: map[int][]byte{}}
	carryOut(t, v, x, put(1, pattern(1, 2048)), put(2, pattern(2, 2030)), put(3, pattern(3, 1000)), put(4, pattern(4, 2000)))
	for n := range 2 {
		l := []api.VaultOp{begin, put(1, pattern(5+n, 1900)), put(2, pattern(6+n, 2048)), gone(3 + n), put(5+n, pattern(7+n, 108)), commit}
		cutCalls(t, m, x.items, 31, l...)
		carryOut(t, v, x, l...)
	}
	l := []api.VaultOp{begin}
	for id := range 512 { // as many changes as the commit buffer has room for
		l = append(l, put(1000+id, nil))
	}
	x = &model{room: 8400, items: map[int][]byte{}}
	m, v = created(t, 32+4*4200/48)
	cutCalls(t, m, x.items, 37, append(l, commit)...)
	carryOut(t, v, x, append(l, commit)...)
	expectNumbers(t, v, 512*16, 0, 4096)
}

// TestCutsOfOtherCalls makes all calls that change nothing, with a cut before the first write.
func TestCutsOfOtherCalls(t *testing.T) {
	m, v := created(t, 40)
	expect(t, "Put", v.Put(1, []byte{1}), api.OK)
	m.Cut(0)
	for _, e := range []api.Errno{v.Begin(), v.Put(2, []byte{2}), v.Put(3, []byte{2}), v.Delete(1), v.Back(2), v.Abort(), v.Begin(), v.Put(4, nil)} {
		if e != api.OK && e != api.ErrPower {
			t.Error(e)
		}
	}
	v.Get(1)
	v.IDs()
	v.Save()
	v.Left()
	v.Used()
	v.Room()
	restored(t, m, map[int][]byte{1: {1}}, nil)
	mountCut(t, m, 0)
	restored(t, m, map[int][]byte{1: {1}}, nil)
}

// P13.8 and P13.9

// TestModelWithCuts makes random calls, some with cuts, after which Mount may be cut, too.
func TestModelWithCuts(t *testing.T) {
	for _, count := range []int{33, 34, 36, 40, 60, 150} {
		for seed := range uint64(10) {
			callsWithCuts(t, count, rand.New(rand.NewPCG(seed, uint64(count))))
		}
	}
}

func callsWithCuts(t *testing.T, count int, r *rand.Rand) {
	t.Helper()
	mem, v := created(t, count)
	x := &model{room: v.Room(), items: map[int][]byte{}}
	for range 300 {
		o, before := randomOp(r, x), x.copied()
		want := x.do(o)
		if r.IntN(4) == 0 {
			mem.Cut(r.IntN(1 + r.IntN(300)))
		}
		if e := do(v, o); e != api.ErrPower {
			mem.Restore()
			expect(t, "a call", e, want)
			continue
		}
		expectDead(t, v, api.ErrPower, api.ErrArg)
		mem.Restore()
		for range r.IntN(3) {
			mountCut(t, mem, r.IntN(50))
		}
		w, after := restored(t, mem, before.items, x.items)
		v, x.active, x.alters = w, false, nil
		if !after {
			x.items = before.items
		}
	}
	expectModel(t, v, x)
}
