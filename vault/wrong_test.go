package vault_test

import (
	"bytes"
	"maps"
	"math/rand/v2"
	"testing"

	"smartcard/api"
	"smartcard/cell"
	"smartcard/vault"
)

// P4, as far as it reaches the vault

// flipOnce inverts a bit of each word, but of none that has a wrong bit already and was not written since.
func flipOnce(m *cell.Memory, r *rand.Rand, flipped map[int]int) {
	for a := range m.Words() {
		if wear, ok := flipped[a]; !ok || wear != m.Wear(a) {
			flipped[a] = m.Wear(a)
			m.Flip(a, r.IntN(32))
		}
	}
}

func TestOneWrongBit(t *testing.T) {
	for seed := range uint64(12) {
		r := rand.New(rand.NewPCG(seed, 7))
		mem, v := created(t, 36+r.IntN(60))
		m := &model{room: v.Room(), items: map[int][]byte{}}
		flipped := map[int]int{}
		for n := range 200 {
			if n%10 == 5 {
				flipOnce(mem, r, flipped)
			}
			onBoth(t, v, m, randomOp(r, m))
			if n%10 == 5 {
				expectModel(t, v, m)
				expectModel(t, mounted(t, mem), &model{room: m.room, items: m.items})
			}
		}
		expectModel(t, v, m)
	}
}

// expectRightOrNothing compares the items that a vault still finds.
func expectRightOrNothing(t *testing.T, v *vault.Vault, want map[int][]byte) (missing int) {
	t.Helper()
	for id := range 30 {
		b, ok := v.Get(id)
		if x, there := want[id]; ok && (!there || !bytes.Equal(b, x)) {
			t.Fatalf("the item %d is %x and not %x", id, b, x)
		} else if there && !ok {
			missing++
		}
	}
	return missing
}

func TestTwoWrongBits(t *testing.T) {
	corrupt, missing, fine := 0, 0, 0
	for seed := range uint64(200) {
		r := rand.New(rand.NewPCG(seed, 8))
		mem, v := created(t, 36+r.IntN(60))
		m := &model{room: v.Room(), items: map[int][]byte{}}
		for range 60 {
			onBoth(t, v, m, randomOp(r, m))
		}
		if m.active {
			onBoth(t, v, m, api.VaultOp{Op: api.VaultAbort})
		}
		for range 1 + r.IntN(4) {
			a, bit := r.IntN(mem.Words()), r.IntN(32)
			mem.Flip(a, bit)
			mem.Flip(a, (bit+1+r.IntN(31))%32)
		}
		missing += expectRightOrNothing(t, v, m.items)
		w, e := vault.Mount(mem.Clone())
		if e != api.OK && (e != api.ErrCorrupt || w != nil) {
			t.Fatal("Mount:", e)
		}
		if e == api.OK {
			expectRightOrNothing(t, w, m.items)
		}
		before := maps.Clone(m.items)
		switch e := v.Put(1, nil); e {
		case api.OK:
			before[1] = nil
			expectRightOrNothing(t, v, before)
			fine++
		case api.ErrCorrupt:
			corrupt++
		default:
			expect(t, "Put", e, m.alter(alter{id: 1}))
		}
	}
	if corrupt == 0 || missing == 0 || fine == 0 {
		t.Error("some of these have never happened, and were not tested:", corrupt, missing, fine)
	}
}

// TestWornWords is about words that have been written more often than they endure: each of them has one wrong bit at most.
func TestWornWords(t *testing.T) {
	mem, v, e := vault.New(api.MemoryConfig{Words: 24 * 40, Endurance: 20})
	expect(t, "New", e, api.OK)
	m := &model{room: v.Room(), items: map[int][]byte{}}
	r := rand.New(rand.NewPCG(1, 9))
	for range 2000 {
		onBoth(t, v, m, randomOp(r, m))
	}
	expectModel(t, v, m)
	expectModel(t, mounted(t, mem), &model{room: m.room, items: m.items})
	worn := 0
	for a := range mem.Words() {
		if mem.Wear(a) > 20 {
			worn++
		}
		if mem.Wear(a) > 100+16*mem.Writes()/mem.Words() {
			t.Error("the word", a, "was written", mem.Wear(a), "times of", mem.Writes())
		}
	}
	if worn < mem.Words()/2 {
		t.Error("only", worn, "words have been written more often than they endure")
	}
}
