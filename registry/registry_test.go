package registry_test

import (
	"bytes"
	"fmt"
	"math"
	"slices"
	"testing"

	"smartcard/api"
	"smartcard/cell"
	"smartcard/registry"
	"smartcard/vault"
)

const forever = 1 << 40 // an endurance that no test reaches

// card is a memory, and what lies on it.
type card struct {
	mem *cell.Memory
	v   *vault.Vault
	r   *registry.Registry
}

// newCard returns a new card whose memory has a number of words.
func newCard(t *testing.T, words int) *card {
	t.Helper()
	m, _, e := vault.New(api.MemoryConfig{Words: words, Endurance: forever})
	expect(t, "vault.New", e, api.OK)
	return mounted(t, m)
}

// mounted returns the card with a memory that has power.
func mounted(t *testing.T, m *cell.Memory) *card {
	t.Helper()
	v, e := vault.Mount(m)
	expect(t, "Mount", e, api.OK)
	r, e := registry.Open(v)
	if e != api.OK || r == nil {
		t.Fatal("Open returns", r, e)
	}
	return &card{m, v, r}
}

// cardWith returns a new card with entries.
func cardWith(t *testing.T, l ...api.Entry) *card {
	t.Helper()
	c := newCard(t, 16384)
	for _, x := range l {
		c.add(t, x, api.OK)
	}
	return c
}

// The identifiers of the tests.
var (
	issuer  = []byte{0xa0, 0, 0, 0, 1}
	domain  = []byte{0xa0, 0, 0, 0, 1, 0}
	library = []byte{0xa0, 0, 0, 0, 2}
	purse   = []byte{0xa0, 0, 0, 0, 2, 1}
	ticket  = []byte{0xa0, 0, 0, 0, 2, 2}
	nobody  = []byte{0xb0, 0, 0, 0, 0}
)

// issuerEntry returns an issuer's domain.
func issuerEntry(aid []byte) api.Entry {
	return api.Entry{AID: aid, Domain: aid, Kind: api.EntryDomain, State: api.AppPersonal, Privileges: api.PrivLock | api.PrivToken | api.PrivReceipt}
}

func domainEntry(aid, of []byte) api.Entry {
	return api.Entry{AID: aid, Domain: of, Kind: api.EntryDomain, State: api.AppSelectable}
}

func packageEntry(aid, of []byte, n int) api.Entry {
	return api.Entry{AID: aid, Domain: of, Kind: api.EntryPackage, State: api.AppLoaded, Package: n}
}

func appEntry(aid, of []byte, n int) api.Entry {
	return api.Entry{AID: aid, Domain: of, Kind: api.EntryApp, State: api.AppSelectable, Package: n, Object: 7}
}

// with returns an entry with a state and privileges.
func with(x api.Entry, state, before, privileges int) api.Entry {
	x.State, x.Before, x.Privileges = state, before, privileges
	return x
}

// usual returns a card with the issuer's domain, another one, a package of it, and two applications.
func usual(t *testing.T) *card {
	t.Helper()
	return cardWith(t, issuerEntry(issuer), domainEntry(domain, issuer), packageEntry(library, domain, 1), appEntry(purse, domain, 1), appEntry(ticket, issuer, 1))
}

// equal is the definition of Same.
func equal(a, b api.Entry) bool { return text(a) == text(b) }

func text(x api.Entry) string {
	return fmt.Sprintf("%x %d %d %d %d %x %d %d", x.AID, x.Kind, x.State, x.Before, x.Privileges, x.Domain, x.Package, x.Object)
}

func texts(l []api.Entry) string {
	var b bytes.Buffer
	for _, x := range l {
		fmt.Fprintln(&b, text(x))
	}
	return b.String()
}

func expect(t *testing.T, what string, got, want api.Errno) {
	t.Helper()
	if got != want {
		t.Fatal(what, "returns", got, "and not", want)
	}
}

func (c *card) add(t *testing.T, x api.Entry, want api.Errno) {
	t.Helper()
	if e := c.r.Add(x); e != want {
		t.Fatal("Add of", text(x), "returns", e, "and not", want)
	}
}

func (c *card) remove(t *testing.T, aid []byte, want api.Errno) {
	t.Helper()
	expect(t, "Remove", c.r.Remove(aid), want)
}

func (c *card) setState(t *testing.T, aid []byte, state int, want api.Errno) {
	t.Helper()
	expect(t, "SetState", c.r.SetState(aid, state), want)
}

func (c *card) lock(t *testing.T, aid []byte, lock bool, want api.Errno) {
	t.Helper()
	expect(t, "Lock", c.r.Lock(aid, lock), want)
}

func (c *card) move(t *testing.T, aid, to []byte, want api.Errno) {
	t.Helper()
	expect(t, "Move", c.r.Move(aid, to), want)
}

// expectFound compares the result of a search with an entry, or with nothing if that has no kind.
func expectFound(t *testing.T, what string, got api.Entry, ok bool, want api.Entry) {
	t.Helper()
	if !equal(got, want) || ok != (want.Kind != 0) {
		t.Fatal(what, "returns", text(got), ok, "and not", text(want))
	}
}

func (c *card) find(t *testing.T, want api.Entry) {
	t.Helper()
	got, ok := c.r.Find(want.AID)
	expectFound(t, "Find", got, ok, want)
}

func (c *card) none(t *testing.T, aid []byte) {
	t.Helper()
	got, ok := c.r.Find(aid)
	expectFound(t, "Find", got, ok, api.Entry{})
}

// next compares the identifier of the entry that Next returns; no identifier stands for none.
func (c *card) next(t *testing.T, begin, after, want []byte) {
	t.Helper()
	got, ok := c.r.Next(begin, after)
	x, _ := c.r.Find(want)
	expectFound(t, "Next", got, ok, x)
}

func (c *card) standard(t *testing.T, want api.Entry) {
	t.Helper()
	got, ok := c.r.Default()
	expectFound(t, "Default", got, ok, want)
}

func (c *card) list(t *testing.T, want ...api.Entry) {
	t.Helper()
	if got := c.r.List(); texts(got) != texts(want) {
		t.Fatalf("List is\n%sand not\n%s", texts(got), texts(want))
	}
}

func (c *card) begin(t *testing.T) { t.Helper(); expect(t, "Begin", c.v.Begin(), api.OK) }

func (c *card) commit(t *testing.T) { t.Helper(); expect(t, "Commit", c.v.Commit(), api.OK) }

func (c *card) abort(t *testing.T) { t.Helper(); expect(t, "Abort", c.v.Abort(), api.OK) }

// Examples

func TestExample(t *testing.T) {
	c := newCard(t, 16384)
	c.add(t, packageEntry(library, issuer, 1), api.ErrNone)
	c.add(t, issuerEntry(issuer), api.OK)
	c.add(t, packageEntry(library, issuer, 1), api.OK)
	c.remove(t, issuer, api.ErrState)
	c.add(t, appEntry(purse, issuer, 1), api.OK)
	c.next(t, library, nil, purse)
	c.lock(t, purse, true, api.OK)
	c.find(t, with(appEntry(purse, issuer, 1), api.AppLocked, api.AppSelectable, 0))
	c.next(t, library, nil, nil)
}

// Objects

// expectUnusable expects that all calls return an error, and Add the error for an entry that is not valid, or nothing.
func expectUnusable(t *testing.T, r *registry.Registry, invalid, want api.Errno) {
	t.Helper()
	c := &card{r: r}
	c.list(t)
	c.standard(t, api.Entry{})
	for _, aid := range [][]byte{issuer, library, purse, nil, make([]byte, 100)} {
		c.none(t, aid)
		c.next(t, aid, nil, nil)
		c.next(t, nil, aid, nil)
		c.remove(t, aid, want)
		c.setState(t, aid, api.AppPersonal, want)
		c.setState(t, aid, -1, want)
		c.lock(t, aid, true, want)
		c.lock(t, aid, false, want)
		c.move(t, aid, issuer, want)
		c.move(t, purse, aid, want)
	}
	c.add(t, issuerEntry(issuer), want)
	c.add(t, appEntry(nobody, issuer, 1), want)
	c.add(t, api.Entry{}, invalid)
	c.add(t, appEntry(nobody, nobody, 1), invalid)
}

func TestNoRegistry(t *testing.T) {
	expectUnusable(t, nil, api.ErrNil, api.ErrNil)
	expectUnusable(t, &registry.Registry{}, api.ErrNil, api.ErrNil)
}

func TestNoPower(t *testing.T) {
	c := usual(t)
	l := c.r.List()
	c.mem.Cut(0)
	c.lock(t, purse, true, api.ErrPower)
	expectUnusable(t, c.r, api.ErrArg, api.ErrPower)
	c.mem.Restore()
	expectUnusable(t, c.r, api.ErrArg, api.ErrPower)
	mounted(t, c.mem).list(t, l...)
}

// TestTwoObjects opens the registry of a vault twice: a change through one of them is seen through the other.
func TestTwoObjects(t *testing.T) {
	c := usual(t)
	r, e := registry.Open(c.v)
	expect(t, "Open", e, api.OK)
	d := &card{c.mem, c.v, r}
	d.remove(t, ticket, api.OK)
	c.none(t, ticket)
	c.begin(t)
	c.remove(t, purse, api.OK)
	d.remove(t, library, api.OK)
	c.remove(t, domain, api.OK)
	d.list(t, issuerEntry(issuer))
	d.add(t, domainEntry(nobody, issuer), api.OK)
	c.find(t, domainEntry(nobody, issuer))
	c.abort(t)
	d.none(t, nobody)
	d.find(t, appEntry(purse, domain, 1))
}

// TestMemory expects that arguments and results share no memory with the registry.
func TestMemory(t *testing.T) {
	c := cardWith(t, issuerEntry(issuer), domainEntry(domain, issuer))
	x := packageEntry(bytes.Clone(library), bytes.Clone(issuer), 1)
	c.add(t, x, api.OK)
	x.AID[0], x.Domain[0] = 1, 1
	c.find(t, packageEntry(library, issuer, 1))
	to := bytes.Clone(domain)
	c.move(t, library, to, api.OK)
	to[0] = 1
	c.find(t, packageEntry(library, domain, 1))
	want := texts(c.r.List())
	l := c.r.List()
	found, _ := c.r.Find(domain)
	next, _ := c.r.Next(nil, nil)
	for _, x := range append(l, found, next) {
		before := bytes.Clone(x.Domain)
		_ = append(x.AID, 1, 1, 1, 1)
		x.AID[0], x.AID[4] = 9, 9
		if !bytes.Equal(x.Domain, before) {
			t.Fatal("the identifiers of an entry share memory")
		}
		x.Domain[0] = 9
	}
	if got := texts(c.r.List()); got != want {
		t.Fatalf("the registry is\n%sand not\n%s", got, want)
	}
}

// P26.1

func TestOpen(t *testing.T) {
	c := newCard(t, 16384)
	writes := c.mem.Writes()
	c.list(t)
	c.standard(t, api.Entry{})
	c.next(t, nil, nil, nil)
	c.none(t, issuer)
	if len(c.v.IDs()) > 0 || c.mem.Writes() != writes {
		t.Error("Open has changed something:", c.v.IDs())
	}
	c = usual(t)
	writes = c.mem.Writes()
	mounted(t, c.mem).list(t, c.r.List()...)
	if c.mem.Writes() != writes {
		t.Error("Open has changed something")
	}
}

func TestOpenErrors(t *testing.T) {
	expectError := func(v *vault.Vault, want api.Errno) {
		t.Helper()
		if r, e := registry.Open(v); e != want || r != nil {
			t.Error("Open returns", r, e, "and not", want)
		}
	}
	expectError(nil, api.ErrNil)
	expectError(&vault.Vault{}, api.ErrPower)
	c := usual(t)
	c.mem.Cut(0)
	expect(t, "Put", c.v.Put(1, nil), api.ErrPower)
	expectError(c.v, api.ErrPower)
	c.mem.Restore()
	expectError(c.v, api.ErrPower)
}

// TestItems expects that each entry is one item of this layer, of at most 16 bytes more than its identifiers, and that other items do not matter.
func TestItems(t *testing.T) {
	c := newCard(t, 16384)
	others := []int{api.ItemCard, api.ItemKeys, api.ItemRegistry - 1, api.ItemFiles, api.ItemObjects}
	for _, id := range others {
		expect(t, "Put", c.v.Put(id, []byte{1, 2, 3}), api.OK)
	}
	used := c.v.Used()
	long := bytes.Repeat([]byte{0xa1}, api.MaxAID)
	for _, x := range []api.Entry{issuerEntry(long), packageEntry(library, long, 16), with(appEntry(purse, long, 16), api.AppLocked, api.AppPersonal, api.PrivAll)} {
		x.Object = x.Object / 7 * api.MaxObjects
		c.add(t, x, api.OK)
		c.find(t, x)
		if more := c.v.Used() - used - 16; more > len(x.AID)+len(x.Domain)+16 {
			t.Error("the item of an entry has", more, "bytes")
		}
		used = c.v.Used()
	}
	n := 0
	for _, id := range c.v.IDs() {
		if id >= api.ItemRegistry && id < api.ItemFiles {
			n++
		} else if !slices.Contains(others, id) {
			t.Error("there is the item", id)
		}
	}
	if n != 3 || len(c.v.IDs()) != 3+len(others) {
		t.Error("the items are", c.v.IDs())
	}
}

// TestDamagedItems is about items that are no entries: nothing is said of the others then, and nothing changes.
func TestDamagedItems(t *testing.T) {
	for _, id := range []int{api.ItemRegistry, api.ItemRegistry + 3, api.ItemFiles - 1} {
		for _, b := range [][]byte{nil, {0}, make([]byte, 8), make([]byte, 18), bytes.Repeat([]byte{0xff}, 40), make([]byte, 2048)} {
			c := usual(t)
			before := c.r.List()
			c.begin(t)
			expect(t, "Put", c.v.Put(id, b), api.OK)
			used := c.v.Save()
			expectUnusable(t, c.r, api.ErrArg, api.ErrCorrupt)
			if c.v.Save() != used {
				t.Fatal("a call with an error has changed something")
			}
			c.abort(t)
			c.list(t, before...)
		}
	}
}

// TestTwin is about an item that was copied, so that two entries have the same identifier.
func TestTwin(t *testing.T) {
	c := usual(t)
	b, _ := c.v.Get(c.v.IDs()[2])
	expect(t, "Put", c.v.Put(api.ItemFiles-2, b), api.OK)
	expectUnusable(t, c.r, api.ErrArg, api.ErrCorrupt)
}

// P26.3

func TestAdd(t *testing.T) {
	c := newCard(t, 16384)
	l := []api.Entry{
		issuerEntry(issuer), with(domainEntry(domain, issuer), api.AppInstalled, 0, api.PrivDelegated),
		packageEntry(library, domain, 16), with(appEntry(purse, domain, 16), api.AppLocked, api.AppInstalled, api.PrivDefault|api.PrivLock),
		packageEntry(nobody, issuer, 1),
	}
	for i, x := range l {
		c.add(t, x, api.OK)
		c.list(t, l[:i+1]...)
		mounted(t, c.mem).list(t, l[:i+1]...)
	}
}

// TestAddToEmpty adds entries that need a domain to an empty registry.
func TestAddToEmpty(t *testing.T) {
	c := newCard(t, 16384)
	for _, x := range []api.Entry{domainEntry(domain, issuer), packageEntry(library, issuer, 1), appEntry(purse, issuer, 1)} {
		c.add(t, x, api.ErrNone)
	}
	c.list(t)
	c.add(t, with(issuerEntry(issuer), api.AppLocked, api.AppSelectable, api.PrivAll), api.OK)
}

// TestAddErrors is about each error, also in the presence of the later ones.
func TestAddErrors(t *testing.T) {
	first := with(appEntry(purse, domain, 1), api.AppInstalled, 0, api.PrivDefault)
	l := []api.Entry{issuerEntry(issuer), domainEntry(domain, issuer), packageEntry(library, domain, 1), first}
	for range 2 { // also with a registry that is full
		c := cardWith(t, l...)
		for _, x := range []struct {
			e    api.Entry
			want api.Errno
		}{
			{api.Entry{}, api.ErrArg},
			{with(first, api.AppInstalled, api.AppInstalled, 0), api.ErrArg},
			{first, api.ErrTwice},
			{issuerEntry(issuer), api.ErrTwice},
			{domainEntry(issuer, domain), api.ErrTwice},
			{issuerEntry(purse), api.ErrTwice},
			{packageEntry(purse, nobody, 1), api.ErrTwice},
			{appEntry(library, nobody, 9), api.ErrTwice},
			{domainEntry(library, nobody), api.ErrTwice},
			{issuerEntry(nobody), api.ErrState},
			{with(issuerEntry(nobody), api.AppInstalled, 0, api.PrivDefault), api.ErrState},
			{domainEntry(nobody, library), api.ErrNone},
			{domainEntry(nobody, purse), api.ErrNone},
			{domainEntry(nobody, ticket), api.ErrNone},
			{domainEntry(nobody, issuer[:4:4]), api.ErrArg},
			{packageEntry(nobody, ticket, 1), api.ErrNone},
			{packageEntry(nobody, purse, 1), api.ErrNone},
			{packageEntry(nobody, library, 2), api.ErrNone},
			{appEntry(nobody, ticket, 1), api.ErrNone},
			{with(appEntry(nobody, library, 1), api.AppSelectable, 0, api.PrivDefault), api.ErrNone},
			{appEntry(nobody, issuer, 2), api.ErrNone},
			{with(appEntry(nobody, issuer, 16), api.AppSelectable, 0, api.PrivDefault), api.ErrNone},
			{packageEntry(nobody, issuer, 1), api.ErrTwice},
			{packageEntry(nobody, domain, 1), api.ErrTwice},
			{with(appEntry(nobody, issuer, 1), api.AppLocked, api.AppPersonal, api.PrivDefault|api.PrivLock), api.ErrState},
			{with(domainEntry(nobody, domain), api.AppPersonal, 0, api.PrivAll), api.ErrState},
		} {
			before := c.r.List()
			c.add(t, x.e, x.want)
			c.list(t, before...)
		}
		for i := len(l); i < api.MaxApps; i++ {
			l = append(l, appEntry(append([]byte{0xc0, 0, 0, 0, 0}, byte(i)), issuer, 1))
		}
	}
}

func TestFull(t *testing.T) {
	c := cardWith(t, issuerEntry(issuer), packageEntry(library, issuer, 1))
	for i := 2; i < api.MaxApps; i++ {
		c.add(t, appEntry(append([]byte{0xc0, 0, 0, 0, 0}, byte(i)), issuer, 1), api.OK)
	}
	before := c.r.List()
	if len(before) != 32 {
		t.Fatal("there are", len(before), "entries")
	}
	for _, x := range []api.Entry{domainEntry(nobody, issuer), packageEntry(nobody, issuer, 2), with(appEntry(nobody, issuer, 1), api.AppSelectable, 0, api.PrivDefault)} {
		c.add(t, x, api.ErrFull)
		c.list(t, before...)
	}
	c.begin(t)
	c.remove(t, []byte{0xc0, 0, 0, 0, 0, 9}, api.OK)
	c.add(t, packageEntry(nobody, issuer, 2), api.OK)
	c.add(t, appEntry(purse, issuer, 2), api.ErrFull)
	c.abort(t)
	c.add(t, domainEntry(nobody, issuer), api.ErrFull)
	for i := 2; i < api.MaxApps; i++ {
		c.remove(t, []byte{0xc0, 0, 0, 0, 0, byte(i)}, api.OK)
	}
	c.remove(t, library, api.OK)
	c.list(t, issuerEntry(issuer))
	if n := len(c.v.IDs()); n != 1 {
		t.Error("there are", n, "items")
	}
}

// TestVaultErrors is about a vault without room, and a commit buffer without room.
func TestVaultErrors(t *testing.T) {
	c := usual(t)
	c.begin(t)
	expect(t, "Put", c.v.Put(1001, make([]byte, 2048)), api.OK)
	expect(t, "Put", c.v.Put(1002, make([]byte, 2048-16)), api.OK)
	before, mark := c.r.List(), c.v.Save()
	for _, e := range []api.Errno{c.r.Add(domainEntry(nobody, issuer)), c.r.Remove(purse), c.r.SetState(purse, api.AppPersonal), c.r.Lock(purse, true), c.r.Move(purse, issuer)} {
		expect(t, "a call without room in the commit buffer", e, api.ErrBuffer)
	}
	c.list(t, before...)
	if c.v.Save() != mark {
		t.Error("a call with an error has made a change")
	}
	c.lock(t, purse, false, api.ErrState)
	c.abort(t)
	room := c.v.Room()
	for id := 1000; room-c.v.Used() > 16; id++ {
		expect(t, "Put", c.v.Put(id, make([]byte, min(2048, room-c.v.Used()-16))), api.OK)
	}
	c.add(t, domainEntry(nobody, issuer), api.ErrFull)
	c.add(t, domainEntry(nobody, ticket), api.ErrNone)
	c.list(t, before...)
	c.lock(t, purse, true, api.OK) // needs no more room
	c.remove(t, purse, api.OK)
}

// P26.4

func TestRemove(t *testing.T) {
	c := usual(t)
	other := []byte{0xa0, 0, 0, 0, 1, 0, 0}
	for _, x := range []api.Entry{domainEntry(other, domain), packageEntry(nobody, other, 2)} {
		c.add(t, x, api.OK)
	}
	before := c.r.List()
	for _, aid := range [][]byte{nil, {}, issuer[:4], {0xa0, 0, 0, 0, 3}, append(bytes.Clone(purse), 0), make([]byte, 17)} {
		c.remove(t, aid, api.ErrNone)
	}
	c.remove(t, issuer, api.ErrState)
	c.remove(t, domain, api.ErrBusy)
	c.remove(t, other, api.ErrBusy)   // a package belongs to it
	c.remove(t, library, api.ErrBusy) // applications have its number
	c.list(t, before...)
	c.remove(t, nobody, api.OK) // no application has its number
	c.remove(t, other, api.OK)
	c.remove(t, purse, api.OK)
	c.none(t, purse)
	c.remove(t, purse, api.ErrNone)
	c.remove(t, library, api.ErrBusy)
	c.remove(t, ticket, api.OK)
	c.remove(t, domain, api.ErrBusy) // the package belongs to it
	c.remove(t, library, api.OK)
	c.remove(t, domain, api.OK)
	c.remove(t, issuer, api.ErrState) // even though it is alone
	c.list(t, issuerEntry(issuer))
	mounted(t, c.mem).list(t, issuerEntry(issuer))
}

// TestRemoveDomains is about domains of domains, and about entries that are locked.
func TestRemoveDomains(t *testing.T) {
	c := cardWith(t, issuerEntry(issuer), domainEntry(domain, issuer), domainEntry(nobody, domain), packageEntry(library, nobody, 3))
	c.lock(t, domain, true, api.OK)
	c.lock(t, nobody, true, api.OK)
	c.remove(t, domain, api.ErrBusy)
	c.remove(t, nobody, api.ErrBusy)
	c.move(t, library, issuer, api.OK)
	c.remove(t, domain, api.ErrBusy)
	c.remove(t, nobody, api.OK)
	c.remove(t, domain, api.OK)
}

// P26.5

func TestFind(t *testing.T) {
	c := usual(t)
	for _, x := range []api.Entry{issuerEntry(issuer), domainEntry(domain, issuer), packageEntry(library, domain, 1), appEntry(purse, domain, 1), appEntry(ticket, issuer, 1)} {
		c.find(t, x)
	}
	for _, aid := range [][]byte{nil, {}, {0xa0}, issuer[:4], append(bytes.Clone(issuer), 1), append(bytes.Clone(purse), 0), nobody, make([]byte, 1000)} {
		c.none(t, aid)
	}
}

// TestList adds entries in an order that is not that of their identifiers.
func TestList(t *testing.T) {
	c := cardWith(t, issuerEntry([]byte{0x80, 1, 1, 1, 1}))
	names := [][]byte{{0x80, 1, 1, 1, 1, 0}, {0x7f, 0xff, 0xff, 0xff, 0xff, 0xff}, {0xff, 0, 0, 0, 0}, {0, 0, 0, 0, 0}, {0x80, 1, 1, 1, 0, 9}, make([]byte, 16), {0x80, 1, 1, 1, 2}, {0x80, 1, 1, 1, 1, 0, 0}}
	for _, aid := range names {
		c.add(t, domainEntry(aid, []byte{0x80, 1, 1, 1, 1}), api.OK)
	}
	var got [][]byte
	for _, x := range c.r.List() {
		got = append(got, x.AID)
	}
	want := [][]byte{names[3], names[5], names[1], names[4], {0x80, 1, 1, 1, 1}, names[0], names[7], names[6], names[2]}
	if !slices.EqualFunc(got, want, bytes.Equal) {
		t.Errorf("List is %x", got)
	}
}

func TestDefault(t *testing.T) {
	x := with(appEntry(purse, issuer, 1), api.AppInstalled, 0, api.PrivDefault)
	c := cardWith(t, issuerEntry(issuer), packageEntry(library, issuer, 1), appEntry(ticket, issuer, 1), x)
	c.standard(t, api.Entry{})
	c.setState(t, purse, api.AppSelectable, api.OK)
	c.standard(t, with(x, api.AppSelectable, 0, api.PrivDefault))
	c.setState(t, purse, api.AppPersonal, api.OK)
	c.standard(t, with(x, api.AppPersonal, 0, api.PrivDefault))
	c.lock(t, purse, true, api.OK)
	c.standard(t, api.Entry{})
	c.lock(t, purse, false, api.OK)
	c.standard(t, with(x, api.AppPersonal, 0, api.PrivDefault))
	c.remove(t, purse, api.OK)
	c.standard(t, api.Entry{})
	y := with(domainEntry(domain, issuer), api.AppSelectable, 0, api.PrivAll)
	c.add(t, y, api.OK)
	c.standard(t, y)
	c.add(t, x, api.ErrState)
	c = cardWith(t, with(issuerEntry(issuer), api.AppPersonal, 0, api.PrivDefault))
	c.standard(t, with(issuerEntry(issuer), api.AppPersonal, 0, api.PrivDefault))
}

// P26.6

func TestNext(t *testing.T) {
	c := usual(t)
	for _, x := range []struct{ begin, after, want []byte }{
		{nil, nil, issuer}, {nil, issuer, domain}, {nil, domain, purse}, {nil, purse, ticket}, {nil, ticket, nil},
		{issuer, nil, issuer}, {issuer, issuer, domain}, {issuer, domain, nil},
		{library, nil, purse}, {library, purse, ticket}, {library, issuer, purse}, {library, ticket, nil},
		{[]byte{0xa0, 0}, nil, issuer}, {[]byte{0xa0}, domain, purse}, {[]byte{0xa1}, nil, nil}, {[]byte{0}, nil, nil},
		{ticket, nil, ticket}, {ticket, purse, ticket}, {ticket, ticket, nil}, {append(bytes.Clone(ticket), 0), nil, nil},
		{nil, []byte{0}, issuer}, {nil, []byte{0xa0, 0, 0, 0, 0, 255}, issuer}, {nil, []byte{0xa0, 0, 0, 0, 1, 1}, purse},
		{nil, []byte{0xa1}, nil}, {nil, make([]byte, 1000), issuer}, {bytes.Repeat([]byte{0xa0}, 1000), nil, nil}, {purse, issuer, purse}, {issuer, []byte{0xa0, 0, 0, 0, 1, 0, 0}, nil},
	} {
		c.next(t, x.begin, x.after, x.want)
		c.next(t, append([]byte{}, x.begin...), append([]byte{}, x.after...), x.want)
	}
}

// TestNextOfStates is about entries of all kinds and states.
func TestNextOfStates(t *testing.T) {
	for state := api.AppInstalled; state <= api.AppLocked; state++ {
		before := 0
		if state == api.AppLocked {
			before = api.AppPersonal
		}
		c := cardWith(t, with(issuerEntry(nobody), api.AppInstalled, 0, 0), packageEntry(library, nobody, 1), with(appEntry(purse, nobody, 1), state, before, 0), with(domainEntry(domain, nobody), state, before, 0))
		if state == api.AppInstalled || state == api.AppLocked {
			c.next(t, nil, nil, nil)
			continue
		}
		c.next(t, nil, nil, domain)
		c.next(t, nil, domain, purse)
		c.next(t, nil, purse, nil)
	}
}

// P26.7

func TestSetState(t *testing.T) {
	c := usual(t)
	for _, aid := range [][]byte{nil, nobody, issuer[:4]} {
		c.setState(t, aid, api.AppPersonal, api.ErrNone)
		c.setState(t, aid, -1, api.ErrNone)
	}
	for state := -1; state < 8; state++ {
		c.setState(t, library, state, api.ErrState)
	}
	for from := api.AppInstalled; from <= api.AppLocked; from++ {
		for _, to := range []int{math.MinInt, -1, 0, 1, 2, 3, 4, 5, 6, 7, 255, 2 + 1<<8, 3 + 1<<32, math.MaxInt} {
			before := 0
			if from == api.AppLocked {
				before = api.AppSelectable
			}
			x, y := with(appEntry(purse, issuer, 1), from, before, 3), with(domainEntry(domain, issuer), from, before, 0)
			c := cardWith(t, issuerEntry(issuer), packageEntry(library, issuer, 1), x, y)
			want := api.ErrState
			if from == api.AppInstalled && to == api.AppSelectable || from == api.AppSelectable && to == api.AppPersonal {
				want, x.State, y.State = api.OK, to, to
			}
			c.setState(t, purse, to, want)
			c.setState(t, domain, to, want)
			c.list(t, issuerEntry(issuer), y, packageEntry(library, issuer, 1), x)
			mounted(t, c.mem).find(t, x)
		}
	}
	c = cardWith(t, with(issuerEntry(issuer), api.AppInstalled, 0, 0))
	c.setState(t, issuer, api.AppSelectable, api.OK)
	c.find(t, with(issuerEntry(issuer), api.AppSelectable, 0, 0))
}

// P26.8 and P26.12

func TestLock(t *testing.T) {
	c := usual(t)
	for _, lock := range []bool{true, false} {
		for _, aid := range [][]byte{nil, nobody, purse[:4]} {
			c.lock(t, aid, lock, api.ErrNone)
		}
		c.lock(t, library, lock, api.ErrType)
		c.lock(t, issuer, lock, api.ErrState)
	}
	for state := api.AppInstalled; state <= api.AppPersonal; state++ {
		x, y := with(appEntry(purse, issuer, 1), state, 0, 3), with(domainEntry(domain, issuer), state, 0, 4)
		c := cardWith(t, issuerEntry(issuer), packageEntry(library, issuer, 1), x, y)
		for _, e := range []api.Entry{x, y} {
			c.lock(t, e.AID, false, api.ErrState)
			c.find(t, e)
			c.lock(t, e.AID, true, api.OK)
			locked := with(e, api.AppLocked, state, e.Privileges)
			c.find(t, locked)
			c.lock(t, e.AID, true, api.ErrState)
			c.find(t, locked)
			mounted(t, c.mem).find(t, locked)
			c.lock(t, e.AID, false, api.OK)
			c.find(t, e)
			c.lock(t, e.AID, false, api.ErrState)
			mounted(t, c.mem).find(t, e)
		}
	}
	locked := with(issuerEntry(issuer), api.AppLocked, api.AppSelectable, 0)
	c = cardWith(t, locked)
	c.lock(t, issuer, true, api.ErrState)
	c.lock(t, issuer, false, api.ErrState)
	c.find(t, locked)
}

// P26.9

func TestMove(t *testing.T) {
	c := usual(t)
	before := c.r.List()
	c.move(t, nil, issuer, api.ErrNone)
	c.move(t, nobody, issuer, api.ErrNone)
	c.move(t, nobody, nobody, api.ErrNone)
	for _, aid := range [][]byte{issuer, domain} {
		c.move(t, aid, issuer, api.ErrType)
		c.move(t, aid, domain, api.ErrType)
		c.move(t, aid, nobody, api.ErrType)
		c.move(t, aid, nil, api.ErrType)
	}
	for _, aid := range [][]byte{purse, library} {
		for _, to := range [][]byte{nil, nobody, purse, library, ticket, issuer[:4], append(bytes.Clone(domain), 0), make([]byte, 1000)} {
			c.move(t, aid, to, api.ErrNone)
		}
	}
	c.list(t, before...)
	c.move(t, purse, issuer, api.OK)
	c.find(t, appEntry(purse, issuer, 1))
	c.move(t, purse, issuer, api.OK) // where it is already
	c.find(t, appEntry(purse, issuer, 1))
	c.remove(t, domain, api.ErrBusy)
	c.move(t, library, issuer, api.OK)
	c.find(t, packageEntry(library, issuer, 1))
	c.lock(t, ticket, true, api.OK)
	c.move(t, ticket, domain, api.OK)
	c.find(t, with(appEntry(ticket, domain, 1), api.AppLocked, api.AppSelectable, 0))
	mounted(t, c.mem).find(t, with(appEntry(ticket, domain, 1), api.AppLocked, api.AppSelectable, 0))
	c.move(t, ticket, issuer, api.OK)
	c.remove(t, domain, api.OK)
	c.move(t, ticket, domain, api.ErrNone)
}

// Transactions

func TestTransactions(t *testing.T) {
	c := usual(t)
	before := c.r.List()
	c.begin(t)
	c.lock(t, purse, true, api.OK)
	mark := c.v.Save()
	c.remove(t, ticket, api.OK)
	c.add(t, packageEntry(nobody, issuer, 2), api.OK)
	c.add(t, appEntry(ticket, issuer, 2), api.OK)
	c.remove(t, nobody, api.ErrBusy)
	c.move(t, purse, issuer, api.OK)
	c.setState(t, ticket, api.AppPersonal, api.OK)
	during := c.r.List()
	mounted(t, c.mem.Clone()).list(t, before...)
	expect(t, "Back", c.v.Back(mark), api.OK)
	c.find(t, with(appEntry(purse, domain, 1), api.AppLocked, api.AppSelectable, 0))
	c.find(t, appEntry(ticket, issuer, 1))
	c.none(t, nobody)
	c.abort(t)
	c.list(t, before...)
	c.begin(t)
	c.lock(t, purse, true, api.OK)
	c.remove(t, ticket, api.OK)
	c.add(t, packageEntry(nobody, issuer, 2), api.OK)
	c.add(t, appEntry(ticket, issuer, 2), api.OK)
	c.move(t, purse, issuer, api.OK)
	c.setState(t, ticket, api.AppPersonal, api.OK)
	c.commit(t)
	c.list(t, during...)
	mounted(t, c.mem).list(t, during...)
}
