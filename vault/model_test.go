package vault_test

import (
	"bytes"
	"maps"
	"math/rand/v2"
	"slices"
	"testing"

	"smartcard/api"
	"smartcard/vault"
)

// alter is a change of a transaction in the model.
type alter struct {
	id   int
	data []byte
	gone bool
}

// model is a vault as the document defines it: what the transaction sees is computed anew each time.
type model struct {
	room   int
	items  map[int][]byte
	active bool
	alters []alter
}

func (m *model) copied() *model {
	c := *m
	c.items, c.alters = maps.Clone(m.items), slices.Clone(m.alters)
	return &c
}

func (m *model) sees() map[int][]byte {
	seen := maps.Clone(m.items)
	for _, a := range m.alters {
		if a.gone {
			delete(seen, a.id)
		} else {
			seen[a.id] = a.data
		}
	}
	return seen
}

func (m *model) need() int {
	last := map[int]int{}
	for _, a := range m.alters {
		last[a.id] = 8 + len(a.data)
	}
	n := 0
	for _, x := range last {
		n += x
	}
	return n
}

func weight(items map[int][]byte) int {
	n := 0
	for _, b := range items {
		n += 16 + len(b)
	}
	return n
}

// alter is Put, or Delete.
func (m *model) alter(a alter) api.Errno {
	if a.id < 1 || a.id > 4096 || len(a.data) > 2048 {
		return api.ErrArg
	}
	if _, ok := m.sees()[a.id]; a.gone && !ok {
		return api.ErrNone
	}
	after := m.copied()
	after.alters = append(after.alters, a)
	switch {
	case m.active && after.need() > 4096:
		return api.ErrBuffer
	case !a.gone && weight(after.sees()) > m.room:
		return api.ErrFull
	case m.active:
		m.alters = after.alters
	default:
		m.items = after.sees()
	}
	return api.OK
}

func (m *model) now(id int, b []byte) api.Errno {
	if id < 1 || id > 4096 || len(b) > 2048 {
		return api.ErrArg
	}
	for _, a := range m.alters {
		if a.id == id {
			return api.ErrState
		}
	}
	after := m.copied()
	after.items[id] = b
	if weight(after.items) > m.room || weight(after.sees()) > m.room {
		return api.ErrFull
	}
	m.items = after.items
	return api.OK
}

func (m *model) begin() api.Errno {
	if m.active {
		return api.ErrState
	}
	m.active = true
	return api.OK
}

func (m *model) end(commit bool) api.Errno {
	if !m.active {
		return api.ErrState
	}
	if commit && weight(m.sees()) > m.room {
		return api.ErrFull
	}
	if commit {
		m.items = m.sees()
	}
	m.active, m.alters = false, nil
	return api.OK
}

func (m *model) back(mark int) api.Errno {
	switch {
	case !m.active:
		return api.ErrState
	case mark < 0 || mark > len(m.alters):
		return api.ErrRange
	}
	m.alters = m.alters[:mark]
	return api.OK
}

// do makes a call on the model: Back to the number in ID, if Op is none of the others.
func (m *model) do(o api.VaultOp) api.Errno {
	switch o.Op {
	case api.VaultPut:
		return m.alter(alter{id: o.ID, data: o.Data})
	case api.VaultDelete:
		return m.alter(alter{id: o.ID, gone: true})
	case api.VaultNow:
		return m.now(o.ID, o.Data)
	case api.VaultBegin:
		return m.begin()
	case api.VaultCommit:
		return m.end(true)
	case api.VaultAbort:
		return m.end(false)
	}
	return m.back(o.ID)
}

// do makes a call on a vault.
func do(v *vault.Vault, o api.VaultOp) api.Errno {
	switch o.Op {
	case api.VaultPut:
		return v.Put(o.ID, o.Data)
	case api.VaultDelete:
		return v.Delete(o.ID)
	case api.VaultNow:
		return v.Now(o.ID, o.Data)
	case api.VaultBegin:
		return v.Begin()
	case api.VaultCommit:
		return v.Commit()
	case api.VaultAbort:
		return v.Abort()
	}
	return v.Back(o.ID)
}

// expectModel compares all that a vault tells with the model.
func expectModel(t *testing.T, v *vault.Vault, m *model) {
	t.Helper()
	expectItems(t, v, m.sees())
	if v.Used() != weight(m.items) || v.Room() != m.room || v.Left() != 4096-m.need() || v.Save() != len(m.alters) || v.Active() != m.active || !v.Alive() {
		t.Fatal(v.Used(), v.Room(), v.Left(), v.Save(), v.Active(), v.Alive(), m)
	}
}

// randomOp returns a call; the items are few, and often as long as the room allows.
func randomOp(r *rand.Rand, m *model) api.VaultOp {
	ids := 1 + r.IntN(1+r.IntN(20))
	o := api.VaultOp{ID: 1 + r.IntN(ids)}
	length := func() int {
		left := m.room - weight(m.sees()) - 16
		if b, ok := m.sees()[o.ID]; ok {
			left += 16 + len(b)
		}
		switch r.IntN(4) {
		case 0:
			return max(0, min(2048, left))
		case 1:
			return max(0, min(2048, left+r.IntN(3)))
		case 2:
			return r.IntN(1 + min(2048, m.room))
		}
		return r.IntN(20)
	}
	switch n := r.IntN(40); {
	case n < 18:
		o.Op, o.Data = api.VaultPut, pattern(r.IntN(1000), length())
	case n < 27:
		o.Op = api.VaultDelete
	case n < 30:
		o.Op, o.Data = api.VaultNow, pattern(r.IntN(1000), length())
	case n < 33:
		o.Op = api.VaultBegin
	case n < 36:
		o.Op = api.VaultCommit
	case n < 37:
		o.Op = api.VaultAbort
	case n < 38:
		o = api.VaultOp{Op: api.VaultPut, ID: r.IntN(3) * 2048 * r.IntN(3), Data: pattern(1, r.IntN(2)*2049)}
	default:
		o.Op, o.ID = api.VaultAbort+1, r.IntN(len(m.alters)+3)-1
	}
	return o
}

// onBoth makes a call on a vault and the model.
func onBoth(t *testing.T, v *vault.Vault, m *model, o api.VaultOp) {
	t.Helper()
	data := o.Data
	o.Data = bytes.Clone(data)
	want := m.do(api.VaultOp{Op: o.Op, ID: o.ID, Data: data})
	if e := do(v, o); e != want {
		t.Fatal(o.Op, o.ID, len(data), "returns", e, "and not", want, m.room, weight(m.items))
	}
	if !bytes.Equal(data, o.Data) {
		t.Fatal("the argument was changed")
	}
	clear(o.Data) // it must not have been kept
}

// spoilResults changes the results of Get, which have to be new memory.
func spoilResults(v *vault.Vault) {
	for _, id := range v.IDs() {
		b, _ := v.Get(id)
		clear(b)
	}
}

// P13.2 to P13.6, and P13.9

func TestModel(t *testing.T) {
	for _, count := range []int{10, 32, 33, 34, 35, 36, 37, 40, 45, 60, 100, 300} {
		for seed := range uint64(8) {
			randomCalls(t, count, rand.New(rand.NewPCG(seed, uint64(count))))
		}
	}
}

func randomCalls(t *testing.T, count int, r *rand.Rand) {
	t.Helper()
	mem, v := created(t, count)
	m := &model{room: max(0, count-32) * 24, items: map[int][]byte{}}
	for n := range 400 {
		onBoth(t, v, m, randomOp(r, m))
		if n%5 == 0 {
			spoilResults(v)
			expectModel(t, v, m)
		}
		if n%50 == 0 {
			w := mounted(t, mem)
			fresh := &model{room: m.room, items: maps.Clone(m.items)}
			expectModel(t, w, fresh)
			if r.IntN(2) == 0 {
				v, m = w, fresh
			}
		}
	}
}

// TestTwoVaultsOnOneJournal makes calls on two vaults in turn: both have the same persistent items, and each has a transaction of its own.
func TestTwoVaultsOnOneJournal(t *testing.T) {
	for _, count := range []int{33, 34, 36, 45, 100} {
		for seed := range uint64(8) {
			r := rand.New(rand.NewPCG(seed, uint64(count)))
			mem, _ := created(t, count)
			j := journalOf(t, mem)
			var vaults [2]*vault.Vault
			var models [2]*model
			for i := range 2 {
				v, e := vault.Open(j)
				expect(t, "Open", e, api.OK)
				vaults[i], models[i] = v, &model{room: v.Room(), items: map[int][]byte{}}
			}
			for range 150 {
				i := r.IntN(2)
				for range 1 + r.IntN(8) {
					onBoth(t, vaults[i], models[i], randomOp(r, models[i]))
				}
				models[1-i].items = models[i].items
				expectModel(t, vaults[1-i], models[1-i])
			}
			expectModel(t, vaults[0], models[0])
			expectModel(t, vaults[1], models[1])
		}
	}
}

// TestArgumentWithCapacity is about what lies behind the end of a slice.
func TestArgumentWithCapacity(t *testing.T) {
	m, v := created(t, 60)
	b := pattern(1, 40)
	expect(t, "Put", v.Put(1, b[:10]), api.OK)
	expect(t, "Now", v.Now(2, b[:20]), api.OK)
	expect(t, "Begin", v.Begin(), api.OK)
	expect(t, "Put", v.Put(3, b[:0]), api.OK)
	expect(t, "Commit", v.Commit(), api.OK)
	if !bytes.Equal(b, pattern(1, 40)) {
		t.Error("the argument was changed")
	}
	clear(b)
	expectItems(t, mounted(t, m), map[int][]byte{1: pattern(1, 40)[:10], 2: pattern(1, 40)[:20], 3: nil})
}

// TestTwoVaultsAfterManyChanges makes so many changes on one vault that the bytes of the journal are used in the same way again, by other items, before the other vault is asked.
func TestTwoVaultsAfterManyChanges(t *testing.T) {
	mem, v := created(t, 33)
	w, e := vault.Open(journalOf(t, mem))
	expect(t, "Open", e, api.OK)
	id := 1
	expect(t, "Put", v.Put(id, []byte{0}), api.OK)
	for n := range 100 {
		for range n {
			expect(t, "Delete", v.Delete(id), api.OK)
			id = id%7 + 1
			expect(t, "Put", v.Put(id, []byte{byte(n)}), api.OK)
		}
		expectItems(t, w, map[int][]byte{id: {byte(n)}})
	}
}
