package vault_test

import (
	"bytes"
	"maps"
	"math"
	"slices"
	"testing"

	"smartcard/api"
	"smartcard/cell"
	"smartcard/journal"
	"smartcard/page"
	"smartcard/vault"
)

const forever = 1 << 40 // an endurance that no test reaches

// created returns a new memory of a number of pages, and its vault.
func created(t *testing.T, count int) (*cell.Memory, *vault.Vault) {
	t.Helper()
	m, v, e := vault.New(api.MemoryConfig{Words: 24 * count, Endurance: forever})
	if e != api.OK || m == nil || v == nil {
		t.Fatal("New:", count, e)
	}
	return m, v
}

// mounted returns the vault of a memory.
func mounted(t *testing.T, m *cell.Memory) *vault.Vault {
	t.Helper()
	v, e := vault.Mount(m)
	if e != api.OK || v == nil {
		t.Fatal("Mount:", e)
	}
	return v
}

// journalOf returns the journal of a memory.
func journalOf(t *testing.T, m *cell.Memory) *journal.Journal {
	t.Helper()
	p, e := page.Open(m)
	if e != api.OK {
		t.Fatal("page.Open:", e)
	}
	j, e := journal.Open(p)
	if e != api.OK {
		t.Fatal("journal.Open:", e)
	}
	return j
}

// pattern returns n bytes, which differ for different seeds.
func pattern(seed, n int) []byte {
	b := make([]byte, n)
	for i := range b {
		b[i] = byte(seed*31 + i*seed + i>>8 + i + 1)
	}
	return b
}

func expect(t *testing.T, what string, got, want api.Errno) {
	t.Helper()
	if got != want {
		t.Fatal(what, "returns", got, "and not", want)
	}
}

func expectIDs(t *testing.T, v *vault.Vault, want ...int) {
	t.Helper()
	if !slices.Equal(v.IDs(), want) {
		t.Fatal("IDs is", v.IDs(), "and not", want)
	}
}

// expectItems compares all items that the transaction sees.
func expectItems(t *testing.T, v *vault.Vault, want map[int][]byte) {
	t.Helper()
	expectIDs(t, v, slices.Sorted(maps.Keys(want))...)
	for id, b := range want {
		if got, ok := v.Get(id); !ok || !bytes.Equal(got, b) {
			t.Fatalf("the item %d is %x and not %x", id, got, b)
		}
	}
}

func expectNone(t *testing.T, v *vault.Vault, ids ...int) {
	t.Helper()
	for _, id := range ids {
		if b, ok := v.Get(id); ok || len(b) > 0 {
			t.Fatal("there is an item", id)
		}
	}
}

// expectNumbers compares Used, Save and Left.
func expectNumbers(t *testing.T, v *vault.Vault, used, save, left int) {
	t.Helper()
	if v.Used() != used || v.Save() != save || v.Left() != left {
		t.Fatal("Used, Save and Left are", v.Used(), v.Save(), v.Left(), "and not", used, save, left)
	}
}

// P13.1

func TestNew(t *testing.T) {
	m, v, e := vault.New(api.MemoryConfig{Words: 1000, Endurance: 7})
	if e != api.OK || m.Words() != 1000 || !m.Power() || v.Active() || !v.Alive() || v.Room() != 9*24 {
		t.Fatal(e, m.Words(), v.Active(), v.Alive(), v.Room())
	}
	expectItems(t, v, nil)
	expectNumbers(t, v, 0, 0, 4096)
	for range 8 {
		expect(t, "Write", m.Write(5, 1), api.OK)
	}
	if w, _ := m.Read(5); w != 1^1<<5 {
		t.Error("the endurance is not that of the configuration:", w)
	}
}

func TestErrorsOfNew(t *testing.T) {
	for _, c := range []api.MemoryConfig{{}, {Words: 1000}, {Words: 239, Endurance: 1}, {Words: 65537, Endurance: 1}, {Words: -1, Endurance: 1}, {Words: 1000, Endurance: -1}} {
		m, v, e := vault.New(c)
		if m != nil || v != nil || e != api.ErrArg {
			t.Error(c, m, v, e)
		}
	}
	if _, v, e := vault.New(api.MemoryConfig{Words: 240, Endurance: 1}); e != api.OK || v.Room() != 0 {
		t.Error(e, v.Room())
	}
}

func TestErrorsOfMount(t *testing.T) {
	small, _ := cell.New(api.MemoryConfig{Words: 239, Endurance: 1})
	dark, _ := created(t, 40)
	dark.Cut(0)
	dark.Write(0, 0)
	for _, x := range []struct {
		m *cell.Memory
		e api.Errno
	}{{nil, api.ErrNil}, {&cell.Memory{}, api.ErrNil}, {small, api.ErrArg}, {dark, api.ErrPower}} {
		if v, e := vault.Mount(x.m); v != nil || e != x.e {
			t.Error(v, e, x.e)
		}
	}
}

func TestOpen(t *testing.T) {
	m, v := created(t, 40)
	expect(t, "Put", v.Put(3, []byte{1, 2}), api.OK)
	expect(t, "Begin", v.Begin(), api.OK)
	expect(t, "Put", v.Put(4, []byte{1, 2}), api.OK)
	w, e := vault.Open(journalOf(t, m))
	expect(t, "Open", e, api.OK)
	if w.Active() {
		t.Error("a vault that was opened has a transaction")
	}
	expectItems(t, w, map[int][]byte{3: {1, 2}})
	expectNumbers(t, w, 18, 0, 4096)
}

func TestErrorsOfOpen(t *testing.T) {
	m, _ := created(t, 40)
	j := journalOf(t, m)
	m.Cut(0)
	m.Write(0, 0)
	for _, x := range []struct {
		j *journal.Journal
		e api.Errno
	}{{nil, api.ErrNil}, {&journal.Journal{}, api.ErrNil}, {j, api.ErrPower}} {
		if v, e := vault.Open(x.j); v != nil || e != x.e {
			t.Error(v, e, x.e)
		}
	}
	m.Restore()
	if v, e := vault.Open(j); v != nil || e != api.ErrPower {
		t.Error("a journal that is not alive:", v, e)
	}
}

// spoiled returns the error of Mount after bytes of the journal were changed.
func spoiled(t *testing.T, m *cell.Memory, l ...api.Change) api.Errno {
	t.Helper()
	c := m.Clone()
	for _, x := range l {
		expect(t, "Apply", journalOf(t, c).Apply([]api.Change{x}), api.OK)
	}
	v, e := vault.Mount(c)
	if (v == nil) == (e == api.OK) {
		t.Fatal(v, e)
	}
	if w, f := vault.Open(journalOf(t, c)); e != f || (w == nil) != (v == nil) {
		t.Error("Open returns", f, "and Mount", e)
	}
	return e
}

func TestBytesOfNoVault(t *testing.T) {
	m, v := created(t, 40)
	for _, b := range [][]byte{{1}, bytes.Repeat([]byte{0xff}, 384), pattern(5, 384), bytes.Repeat([]byte{0x55, 0xaa}, 192)} {
		expect(t, "no vault", spoiled(t, m, api.Change{Data: b}), api.ErrCorrupt)
	}
	for id := range 4 {
		expect(t, "Put", v.Put(1+id, pattern(id, 20)), api.OK)
	}
	expect(t, "a vault", spoiled(t, m), api.OK)
	for off := range 18 { // each byte of the head counts
		expect(t, "another head", spoiled(t, m, api.Change{Off: off, Data: []byte{0x81}}), api.ErrCorrupt)
	}
	for _, b := range [][]byte{{0, 0}, {0x10, 1}, {1, 1, 8, 1}, {0, 1, 0xff, 0xfe}, {0, 1, 1, 0x70}} {
		expect(t, "another entry", spoiled(t, m, api.Change{Off: 18, Data: b}), api.ErrCorrupt)
	}
}

// head returns the first bytes of a journal with a log.
func head(tail, used int) []byte {
	b := []byte{byte(tail >> 16), byte(tail >> 8), byte(tail), byte(used >> 16), byte(used >> 8), byte(used), 0, 0, 1}
	for _, x := range b {
		b = append(b, ^x)
	}
	return b
}

// TestBytesThatNoVaultWrites is about logs that cannot be where they are said to be, or that contain too much.
func TestBytesThatNoVaultWrites(t *testing.T) {
	m, _ := created(t, 40)
	for _, x := range []struct {
		head []byte
		e    api.Errno
	}{{head(0, 0), api.OK}, {head(365, 0), api.OK}, {head(366, 0), api.ErrCorrupt}, {head(0, 367), api.ErrCorrupt}, {head(0, 1), api.ErrCorrupt}, {head(5, 3), api.ErrCorrupt}, {head(0, 4), api.ErrCorrupt}} {
		expect(t, "another head", spoiled(t, m, api.Change{Data: x.head}), x.e)
	}
	all := append(head(0, 366), 0, 1, 0, 2, 7, 8)
	for len(all) < 384 {
		all = append(all, 0, 2, 0xff, 0xff)
	}
	expect(t, "a log that leaves no space", spoiled(t, m, api.Change{Data: all}), api.OK)
	item := func(n int) []byte { return append(head(0, 4+n), 0, 1, byte(n>>8), byte(n)) }
	expect(t, "an item that fills the room", spoiled(t, m, api.Change{Data: item(192 - 16)}), api.OK)
	expect(t, "an item that exceeds the room", spoiled(t, m, api.Change{Data: item(192 - 15)}), api.ErrCorrupt)
	two := append(append(item(80), make([]byte, 80)...), 0, 2, 0, 80)
	copy(two, head(0, 168))
	expect(t, "items that fill the room", spoiled(t, m, api.Change{Data: two}), api.OK)
	two[len(two)-1]++
	copy(two, head(0, 169))
	expect(t, "items that exceed the room", spoiled(t, m, api.Change{Data: two}), api.ErrCorrupt)
}

// TestLogThatCannotBecomeShorter is about a log that no vault has left behind, in which the first entry cannot be copied.
func TestLogThatCannotBecomeShorter(t *testing.T) {
	m, _ := created(t, 40)
	l := append(append(head(0, 364), 0, 2, 0, 100), make([]byte, 100)...)
	for len(l) < 18+364 {
		l = append(l, 0, 3, 0xff, 0xff)
	}
	expect(t, "Apply", journalOf(t, m).Apply([]api.Change{{Data: l}}), api.OK)
	v := mounted(t, m)
	expect(t, "Put", v.Put(5, nil), api.ErrCorrupt)
	expectItems(t, v, map[int][]byte{2: make([]byte, 100)})
}

// P13.2

func TestGet(t *testing.T) {
	_, v := created(t, 100)
	for _, id := range []int{4096, 7, 1, 300} {
		expect(t, "Put", v.Put(id, pattern(id, id%9)), api.OK)
	}
	expectItems(t, v, map[int][]byte{1: pattern(1, 1), 7: pattern(7, 7), 300: pattern(300, 3), 4096: pattern(4096, 1)})
	expectNone(t, v, 0, -1, 2, 4095, 4097, math.MaxInt, math.MinInt)
	expectNumbers(t, v, 12+4*16, 0, 4096)
	expect(t, "Put", v.Put(7, nil), api.OK)
	if b, ok := v.Get(7); !ok || len(b) != 0 {
		t.Error("an item without data:", b, ok)
	}
	expectNumbers(t, v, 5+4*16, 0, 4096)
	expect(t, "Delete", v.Delete(1), api.OK)
	expectIDs(t, v, 7, 300, 4096)
	expectNone(t, v, 1)
	expectNumbers(t, v, 4+3*16, 0, 4096)
}

func TestRoom(t *testing.T) {
	for count, room := range map[int]int{10: 0, 32: 0, 33: 24, 34: 48, 682: 15600, 2730: 64752} {
		if _, v := created(t, count); v.Room() != room || v.Used() != 0 {
			t.Error(count, v.Room(), v.Used())
		}
	}
}

// TestLargeVault fills the greatest memory.
func TestLargeVault(t *testing.T) {
	m, v := created(t, 65536/24)
	want := map[int][]byte{}
	for n := range 150 { // some of them twice
		id := 4096 - n*37%101
		want[id] = pattern(n, 500+n%100)
		expect(t, "Put", v.Put(id, want[id]), api.OK)
	}
	left := v.Room() - v.Used() - 16
	if left < 0 || left > 10000 {
		t.Error("the room is not nearly used:", left)
	}
	for id := 1; left > 0; id++ {
		want[id] = pattern(id, min(left, 2048))
		expect(t, "Put", v.Put(id, want[id]), api.OK)
		left = max(0, v.Room()-v.Used()-16)
	}
	expectItems(t, v, want)
	for n := range 150 {
		id := 4096 - n*41%101
		want[id] = pattern(n+1, len(want[id]))
		expect(t, "Put", v.Put(id, want[id]), api.OK)
		if n%10 == 0 {
			expectItems(t, mounted(t, m), want)
		}
	}
	expectItems(t, v, want)
}

// P13.3

func TestErrorsOfPutAndDelete(t *testing.T) {
	_, v := created(t, 200)
	for range 2 { // without a transaction, and within one
		for _, id := range []int{0, -1, 4097, math.MaxInt, math.MinInt} {
			expect(t, "Put", v.Put(id, nil), api.ErrArg)
			expect(t, "Delete", v.Delete(id), api.ErrArg)
			expect(t, "Now", v.Now(id, nil), api.ErrArg)
		}
		expect(t, "Put", v.Put(1, make([]byte, 2049)), api.ErrArg)
		expect(t, "Now", v.Now(1, make([]byte, 2049)), api.ErrArg)
		expect(t, "Put", v.Put(0, make([]byte, 2049)), api.ErrArg)
		expect(t, "Delete", v.Delete(1), api.ErrNone)
		expect(t, "Delete", v.Delete(4096), api.ErrNone)
		expectItems(t, v, nil)
		expectNumbers(t, v, 0, 0, 4096)
		v.Begin()
	}
	expect(t, "Put", v.Put(1, make([]byte, 2048)), api.OK)
	expect(t, "Put", v.Put(4096, nil), api.OK)
	expect(t, "Commit", v.Commit(), api.OK)
	expect(t, "Delete", v.Delete(1), api.OK)
	expect(t, "Delete", v.Delete(1), api.ErrNone)
	expect(t, "Delete", v.Delete(4096), api.OK)
}

func TestDeleteWithinATransaction(t *testing.T) {
	_, v := created(t, 60)
	expect(t, "Put", v.Put(1, []byte{1}), api.OK)
	expect(t, "Begin", v.Begin(), api.OK)
	expect(t, "Delete", v.Delete(1), api.OK)
	expect(t, "Delete", v.Delete(1), api.ErrNone)
	expect(t, "Delete", v.Delete(2), api.ErrNone)
	expect(t, "Put", v.Put(2, []byte{2, 3}), api.OK)
	expect(t, "Delete", v.Delete(2), api.OK)
	expect(t, "Delete", v.Delete(2), api.ErrNone)
	expectNumbers(t, v, 17, 3, 4096-16)
	expect(t, "Put", v.Put(1, []byte{4}), api.OK)
	expectItems(t, v, map[int][]byte{1: {4}})
	expect(t, "Commit", v.Commit(), api.OK)
	expectItems(t, v, map[int][]byte{1: {4}})
	expectNumbers(t, v, 17, 0, 4096)
}

func TestCommitBuffer(t *testing.T) {
	_, v := created(t, 800)
	expect(t, "Put", v.Put(1, make([]byte, 2048)), api.OK)
	expect(t, "Put", v.Put(2, make([]byte, 2048)), api.OK)
	expect(t, "Put", v.Put(3, make([]byte, 2048)), api.OK)
	expect(t, "Begin", v.Begin(), api.OK)
	expect(t, "Put", v.Put(1, pattern(1, 2048)), api.OK)
	expectNumbers(t, v, 3*2064, 1, 4096-2056)
	expect(t, "Put", v.Put(2, pattern(2, 2033)), api.ErrBuffer)
	expect(t, "Put", v.Put(2, pattern(2, 2032)), api.OK)
	expectNumbers(t, v, 3*2064, 2, 0)
	expect(t, "Put", v.Put(4, nil), api.ErrBuffer)
	expect(t, "Put", v.Put(2, pattern(2, 2033)), api.ErrBuffer)
	expect(t, "Delete", v.Delete(4), api.ErrNone)
	expect(t, "Delete", v.Delete(3), api.ErrBuffer)
	expect(t, "Put", v.Put(1, pattern(3, 2048)), api.OK) // only the last change of an item is in need
	expectNumbers(t, v, 3*2064, 3, 0)
	expect(t, "Now", v.Now(4, make([]byte, 2048)), api.OK)
	expect(t, "Put", v.Put(1, pattern(1, 2040)), api.OK)
	expect(t, "Delete", v.Delete(3), api.OK)
	expectNumbers(t, v, 4*2064, 5, 0)
	expect(t, "Delete", v.Delete(2), api.OK)
	expectNumbers(t, v, 4*2064, 6, 2032)
	expect(t, "Commit", v.Commit(), api.OK)
	expectItems(t, v, map[int][]byte{1: pattern(1, 2040), 4: make([]byte, 2048)})
}

func TestFull(t *testing.T) {
	_, v := created(t, 200) // with a room of 4032
	expect(t, "Put", v.Put(1, make([]byte, 2000)), api.OK)
	expect(t, "Put", v.Put(2, make([]byte, 2001)), api.ErrFull)
	expect(t, "Put", v.Put(2, make([]byte, 2000)), api.OK)
	expect(t, "Put", v.Put(3, nil), api.ErrFull)
	expect(t, "Now", v.Now(3, nil), api.ErrFull)
	expect(t, "Put", v.Put(2, make([]byte, 2001)), api.ErrFull)
	expect(t, "Begin", v.Begin(), api.OK)
	expect(t, "Put", v.Put(2, make([]byte, 2001)), api.ErrFull)
	expect(t, "Put", v.Put(1, make([]byte, 1984)), api.OK)
	expect(t, "Put", v.Put(3, []byte{1}), api.ErrFull)
	expect(t, "Put", v.Put(3, nil), api.OK)
	expect(t, "Put", v.Put(1, make([]byte, 1985)), api.ErrFull)
	expect(t, "Put", v.Put(2, make([]byte, 2048)), api.ErrFull)
	expectNumbers(t, v, 4032, 2, 4096-1984-16)
	expect(t, "Commit", v.Commit(), api.OK)
	expectNumbers(t, v, 4032, 0, 4096)
	expectItems(t, v, map[int][]byte{1: make([]byte, 1984), 2: make([]byte, 2000), 3: nil})
}

// TestBufferBeforeFull is about a change that exceeds both.
func TestBufferBeforeFull(t *testing.T) {
	_, v := created(t, 200)
	expect(t, "Begin", v.Begin(), api.OK)
	expect(t, "Put", v.Put(1, make([]byte, 2048)), api.OK)
	expect(t, "Put", v.Put(2, make([]byte, 2040)), api.ErrBuffer)
	expect(t, "Put", v.Put(2, make([]byte, 2000)), api.ErrFull)
}

// P13.4

func TestNow(t *testing.T) {
	m, v := created(t, 60)
	expect(t, "Now", v.Now(1, []byte{1}), api.OK)
	expect(t, "Now", v.Now(1, []byte{1, 2}), api.OK)
	expect(t, "Put", v.Put(2, []byte{2}), api.OK)
	expect(t, "Begin", v.Begin(), api.OK)
	expect(t, "Delete", v.Delete(2), api.OK)
	expect(t, "Put", v.Put(3, []byte{3}), api.OK)
	for _, id := range []int{2, 3} {
		expect(t, "Now", v.Now(id, nil), api.ErrState)
	}
	expect(t, "Now", v.Now(1, []byte{4, 5, 6}), api.OK)
	expect(t, "Now", v.Now(4, []byte{7}), api.OK)
	expectNumbers(t, v, 19+17+17, 2, 4096-17)
	expectItems(t, v, map[int][]byte{1: {4, 5, 6}, 3: {3}, 4: {7}})
	expectItems(t, mounted(t, m), map[int][]byte{1: {4, 5, 6}, 2: {2}, 4: {7}})
	expect(t, "Back", v.Back(1), api.OK)
	expect(t, "Now", v.Now(3, []byte{8}), api.OK) // the change of this item is forgotten
	expect(t, "Now", v.Now(2, nil), api.ErrState)
	expect(t, "Abort", v.Abort(), api.OK)
	expectItems(t, v, map[int][]byte{1: {4, 5, 6}, 2: {2}, 3: {8}, 4: {7}})
}

func TestNowWithoutRoom(t *testing.T) {
	_, v := created(t, 40) // with a room of 192
	expect(t, "Put", v.Put(1, make([]byte, 84)), api.OK)
	expect(t, "Begin", v.Begin(), api.OK)
	expect(t, "Now", v.Now(2, make([]byte, 77)), api.ErrFull)
	expect(t, "Put", v.Put(3, make([]byte, 34)), api.OK)
	expect(t, "Now", v.Now(2, make([]byte, 27)), api.ErrFull) // as the transaction sees the items
	expect(t, "Now", v.Now(2, make([]byte, 26)), api.OK)
	expect(t, "Now", v.Now(3, make([]byte, 2000)), api.ErrState)
	expect(t, "Delete", v.Delete(1), api.OK)
	expect(t, "Now", v.Now(2, make([]byte, 77)), api.ErrFull) // as the persistent items are
	expect(t, "Now", v.Now(2, make([]byte, 76)), api.OK)
	expect(t, "Commit", v.Commit(), api.OK)
	expectItems(t, v, map[int][]byte{2: make([]byte, 76), 3: make([]byte, 34)})
}

// P13.5

func TestTransaction(t *testing.T) {
	m, v := created(t, 60)
	expect(t, "Commit", v.Commit(), api.ErrState)
	expect(t, "Abort", v.Abort(), api.ErrState)
	expect(t, "Begin", v.Begin(), api.OK)
	expect(t, "Begin", v.Begin(), api.ErrState)
	if !v.Active() {
		t.Error("no transaction after Begin")
	}
	writes := m.Writes()
	expect(t, "Put", v.Put(1, []byte{1}), api.OK)
	expect(t, "Abort", v.Abort(), api.OK)
	expect(t, "Begin", v.Begin(), api.OK)
	expect(t, "Commit", v.Commit(), api.OK)
	if m.Writes() != writes || v.Active() {
		t.Error("a transaction without changes:", m.Writes()-writes, v.Active())
	}
	expectItems(t, v, nil)
	expectNumbers(t, v, 0, 0, 4096)
	expect(t, "Begin", v.Begin(), api.OK)
	expect(t, "Put", v.Put(1, []byte{2}), api.OK)
	expect(t, "Commit", v.Commit(), api.OK)
	expectItems(t, v, map[int][]byte{1: {2}})
	expect(t, "Commit", v.Commit(), api.ErrState)
	expect(t, "Abort", v.Abort(), api.ErrState)
}

func TestCommitWithoutRoom(t *testing.T) {
	m, v := created(t, 40) // with a room of 192
	expect(t, "Put", v.Put(1, make([]byte, 84)), api.OK)
	expect(t, "Begin", v.Begin(), api.OK)
	expect(t, "Put", v.Put(2, make([]byte, 34)), api.OK)
	expect(t, "Put", v.Put(1, nil), api.OK)
	expect(t, "Now", v.Now(3, make([]byte, 14)), api.OK)
	expect(t, "Now", v.Now(4, make([]byte, 14)), api.OK)
	expect(t, "Back", v.Back(1), api.OK)
	for range 2 { // a transaction that exceeds the room remains
		expect(t, "Commit", v.Commit(), api.ErrFull)
		expectNumbers(t, v, 160, 1, 4096-42)
	}
	expect(t, "Put", v.Put(2, make([]byte, 17)), api.ErrFull)
	expect(t, "Now", v.Now(3, make([]byte, 13)), api.ErrFull) // which would make it less, but not enough
	expect(t, "Delete", v.Delete(3), api.OK)
	expectItems(t, mounted(t, m), map[int][]byte{1: make([]byte, 84), 3: make([]byte, 14), 4: make([]byte, 14)})
	expect(t, "Commit", v.Commit(), api.OK)
	expectItems(t, v, map[int][]byte{1: make([]byte, 84), 2: make([]byte, 34), 4: make([]byte, 14)})
}

// P13.6

func TestBack(t *testing.T) {
	_, v := created(t, 60)
	expect(t, "Put", v.Put(1, []byte{1}), api.OK)
	expect(t, "Back", v.Back(0), api.ErrState)
	expect(t, "Back", v.Back(-1), api.ErrState)
	expect(t, "Begin", v.Begin(), api.OK)
	expect(t, "Back", v.Back(0), api.OK)
	expect(t, "Back", v.Back(1), api.ErrRange)
	want := []map[int][]byte{{1: {1}}, {1: {2}}, {1: {2}, 3: {3}}, {3: {3}}, {1: {4, 5}, 3: {3}}, {1: {4, 5}, 3: nil}}
	left := []int{0, 9, 18, 17, 19, 18}
	make := func(from int) {
		for i, f := range []func() api.Errno{
			func() api.Errno { return v.Put(1, []byte{2}) },
			func() api.Errno { return v.Put(3, []byte{3}) },
			func() api.Errno { return v.Delete(1) },
			func() api.Errno { return v.Put(1, []byte{4, 5}) },
			func() api.Errno { return v.Put(3, nil) },
		} {
			if i >= from {
				expect(t, "a change", f(), api.OK)
			}
		}
	}
	make(0)
	for mark := 5; mark >= 0; mark-- {
		expect(t, "Delete", v.Delete(2), api.ErrNone) // which is no change
		expect(t, "Back", v.Back(mark), api.OK)
		expectItems(t, v, want[mark])
		expectNumbers(t, v, 17, mark, 4096-left[mark])
		make(mark)
		expect(t, "Back", v.Back(mark), api.OK)
		expectItems(t, v, want[mark])
		for _, n := range []int{-1, mark + 1, math.MinInt, math.MaxInt} {
			expect(t, "Back", v.Back(n), api.ErrRange)
		}
	}
	make(0)
	expect(t, "Back", v.Back(2), api.OK)
	expect(t, "Commit", v.Commit(), api.OK)
	expectItems(t, v, want[2])
}

// P13.7

// expectDead compares all that a vault tells that is nil, or without power.
func expectDead(t *testing.T, v *vault.Vault, e, arg api.Errno) {
	t.Helper()
	expect(t, "Put", v.Put(1, nil), e)
	expect(t, "Put", v.Put(0, nil), arg)
	expect(t, "Put", v.Put(1, make([]byte, 2049)), arg)
	expect(t, "Delete", v.Delete(9), e)
	expect(t, "Delete", v.Delete(0), arg)
	expect(t, "Now", v.Now(1, nil), e)
	expect(t, "Now", v.Now(4097, nil), arg)
	expect(t, "Begin", v.Begin(), e)
	expect(t, "Commit", v.Commit(), e)
	expect(t, "Abort", v.Abort(), e)
	expect(t, "Back", v.Back(-1), e)
	expectNone(t, v, 1, 5)
	if v.Active() || v.Save() != 0 || v.Left() != 0 || v.Used() != 0 || v.Room() != 0 || len(v.IDs()) != 0 || v.Alive() {
		t.Error(v.Active(), v.Save(), v.Left(), v.Used(), v.Room(), v.IDs(), v.Alive())
	}
}

func TestAlive(t *testing.T) {
	expectDead(t, nil, api.ErrNil, api.ErrNil)
	expectDead(t, &vault.Vault{}, api.ErrNil, api.ErrNil)
	for _, active := range []bool{false, true} {
		m, v := created(t, 60)
		expect(t, "Put", v.Put(5, []byte{1}), api.OK)
		if active {
			expect(t, "Begin", v.Begin(), api.OK)
			expect(t, "Put", v.Put(1, []byte{1}), api.OK)
		}
		m.Cut(1)
		if !v.Alive() {
			t.Error("not alive although the power was not cut yet")
		}
		expect(t, "Now", v.Now(6, nil), api.ErrPower)
		expectDead(t, v, api.ErrPower, api.ErrArg)
		m.Restore()
		expectDead(t, v, api.ErrPower, api.ErrArg)
		expectItems(t, mounted(t, m), map[int][]byte{5: {1}})
	}
}

// Examples

func TestExamples(t *testing.T) {
	_, v := created(t, 60)
	expect(t, "Put", v.Put(5, []byte{1, 2}), api.OK)
	expectNumbers(t, v, 18, 0, 4096)
	expectIDs(t, v, 5)
	expect(t, "Begin", v.Begin(), api.OK)
	expect(t, "Put", v.Put(7, []byte{3}), api.OK)
	expect(t, "Delete", v.Delete(5), api.OK)
	expectIDs(t, v, 7)
	expectNumbers(t, v, 18, 2, api.CommitBytes-17)
	expect(t, "Back", v.Back(1), api.OK)
	expectIDs(t, v, 5, 7)
	expect(t, "Now", v.Now(7, []byte{4}), api.ErrState)
	expect(t, "Now", v.Now(8, []byte{4}), api.OK)
	expect(t, "Abort", v.Abort(), api.OK)
	expectItems(t, v, map[int][]byte{5: {1, 2}, 8: {4}})
	expect(t, "Put", v.Put(0, []byte{1}), api.ErrArg)
	expect(t, "Put", v.Put(4097, []byte{1}), api.ErrArg)
	expect(t, "Put", v.Put(1, make([]byte, 2049)), api.ErrArg)
	expect(t, "Delete", v.Delete(9), api.ErrNone)
	expect(t, "Commit", v.Commit(), api.ErrState)
}
