package batch_test

import (
	"slices"
	"testing"

	"smartcard/api"
	"smartcard/batch"
	"smartcard/cell"
	"smartcard/vault"
)

// created returns a new memory, and its vault.
func created(t *testing.T) (*cell.Memory, *vault.Vault) {
	t.Helper()
	m, v, e := vault.New(api.MemoryConfig{Words: 60 * 24, Endurance: 1 << 40})
	expect(t, "New", e, api.OK)
	return m, v
}

func expect(t *testing.T, what string, got, want api.Errno) {
	t.Helper()
	if got != want {
		t.Fatal(what, "returns", got, "and not", want)
	}
}

func expectIDs(t *testing.T, v *vault.Vault, want ...int) {
	t.Helper()
	if !slices.Equal(v.IDs(), want) {
		t.Fatal("the items are", v.IDs(), "and not", want)
	}
}

// puts makes an item for each number, and returns an error then.
func puts(v *vault.Vault, e api.Errno, ids ...int) func() api.Errno {
	return func() api.Errno {
		for _, id := range ids {
			if e := v.Put(id, []byte{byte(id)}); e != api.OK {
				return e
			}
		}
		return e
	}
}

func TestWithoutTransaction(t *testing.T) {
	m, v := created(t)
	expect(t, "Do", batch.Do(v, func() api.Errno {
		if !v.Active() {
			t.Error("the changes are not in a transaction")
		}
		return puts(v, api.OK, 1, 2)()
	}), api.OK)
	expectIDs(t, v, 1, 2)
	expect(t, "Do", batch.Do(v, puts(v, api.ErrBusy, 3, 4)), api.ErrBusy)
	expect(t, "Do", batch.Do(v, puts(v, api.OK, 5, 0)), api.ErrArg)
	expectIDs(t, v, 1, 2)
	if v.Active() {
		t.Error("a transaction remains")
	}
	w, e := vault.Mount(m)
	expect(t, "Mount", e, api.OK)
	expectIDs(t, w, 1, 2)
}

func TestWithinTransaction(t *testing.T) {
	m, v := created(t)
	expect(t, "Begin", v.Begin(), api.OK)
	expect(t, "Put", v.Put(9, nil), api.OK)
	expect(t, "Do", batch.Do(v, puts(v, api.OK, 1, 2)), api.OK)
	expect(t, "Do", batch.Do(v, puts(v, api.ErrBusy, 3, 1)), api.ErrBusy)
	expectIDs(t, v, 1, 2, 9)
	if !v.Active() || v.Save() != 3 {
		t.Error("the transaction has", v.Save(), "changes")
	}
	w, e := vault.Mount(m)
	expect(t, "Mount", e, api.OK)
	expectIDs(t, w)
	expect(t, "Abort", v.Abort(), api.OK)
	expectIDs(t, v)
}

// TestCommitThatFails is about changes that fit into a transaction, but cannot be committed: Back may leave more items than there is room for.
func TestCommitThatFails(t *testing.T) {
	_, v := created(t)
	half := make([]byte, v.Room()/2)
	expect(t, "Put", v.Put(1, half), api.OK)
	e := batch.Do(v, func() api.Errno {
		expect(t, "Put", v.Put(2, half[:len(half)-16*2]), api.OK)
		expect(t, "Delete", v.Delete(1), api.OK)
		expect(t, "Now", v.Now(3, make([]byte, 10)), api.OK)
		return v.Back(1)
	})
	expect(t, "Do", e, api.ErrFull)
	expectIDs(t, v, 1, 3)
	if v.Active() {
		t.Error("a transaction remains")
	}
}

func TestCuts(t *testing.T) {
	m, v := created(t)
	expect(t, "Put", v.Put(1, nil), api.OK)
	for n := 0; ; n++ {
		c := m.Clone()
		v, _ := vault.Mount(c)
		c.Cut(n)
		e := batch.Do(v, puts(v, api.OK, 2, 3, 4))
		c.Restore()
		w, f := vault.Mount(c)
		expect(t, "Mount", f, api.OK)
		if len(w.IDs()) == 4 {
			expectIDs(t, w, 1, 2, 3, 4)
		} else {
			expectIDs(t, w, 1)
		}
		if e == api.OK {
			expectIDs(t, v, 1, 2, 3, 4)
			return
		}
		expect(t, "Do", e, api.ErrPower)
		expect(t, "Do", batch.Do(v, puts(v, api.OK, 5)), api.ErrPower)
	}
}

func TestNoVault(t *testing.T) {
	for _, v := range []*vault.Vault{nil, {}} {
		e := batch.Do(v, func() api.Errno {
			t.Error("changes were made")
			return api.OK
		})
		expect(t, "Do", e, api.ErrNil)
	}
}
