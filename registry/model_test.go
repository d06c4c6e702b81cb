package registry_test

import (
	"bytes"
	"fmt"
	"maps"
	"math/rand/v2"
	"slices"
	"strings"
	"testing"

	"smartcard/api"
	"smartcard/registry"
)

// registrar is what Registry and the model have in common.
type registrar interface {
	Add(e api.Entry) api.Errno
	Remove(aid []byte) api.Errno
	Find(aid []byte) (api.Entry, bool)
	Next(begin, after []byte) (api.Entry, bool)
	SetState(aid []byte, state int) api.Errno
	Lock(aid []byte, lock bool) api.Errno
	Move(aid, domain []byte) api.Errno
	List() []api.Entry
	Default() (api.Entry, bool)
}

// state is entries by their identifiers.
type state map[string]api.Entry

// model is a registry as the document defines it.
type model struct {
	durable []state // all persistent states so far, the current one last
	seen    []state // within a transaction: its state at the beginning, and after each of its changes
}

func newModel() *model { return &model{durable: []state{{}}} }

func (m *model) copied() *model { return &model{slices.Clone(m.durable), slices.Clone(m.seen)} }

// last returns the persistent state.
func (m *model) last() state { return m.durable[len(m.durable)-1] }

func (m *model) active() bool { return len(m.seen) > 0 }

func (m *model) now() state {
	if m.active() {
		return m.seen[len(m.seen)-1]
	}
	return m.last()
}

// put puts an entry in the place of the one with its identifier; without a kind it is removed.
func (m *model) put(aid []byte, e api.Entry) api.Errno {
	s := maps.Clone(m.now())
	s[string(aid)] = e
	if e.Kind == 0 {
		delete(s, string(aid))
	}
	if m.active() {
		m.seen = append(m.seen, s)
	} else {
		m.durable = append(m.durable, s)
	}
	return api.OK
}

func (m *model) begin() api.Errno {
	if m.active() {
		return api.ErrState
	}
	m.seen = []state{m.last()}
	return api.OK
}

func (m *model) commit() api.Errno {
	if !m.active() {
		return api.ErrState
	}
	m.durable, m.seen = append(m.durable, m.now()), nil
	return api.OK
}

func (m *model) abort() api.Errno {
	if !m.active() {
		return api.ErrState
	}
	m.seen = nil
	return api.OK
}

// back forgets all changes of the transaction but the first ones.
func (m *model) back(mark int) { m.seen = m.seen[:1+mark] }

func own(e api.Entry) bool { return e.Kind == api.EntryDomain && bytes.Equal(e.AID, e.Domain) }

func (m *model) Add(e api.Entry) api.Errno {
	if !valid(e) {
		return api.ErrArg
	}
	if m.now()[string(e.AID)].Kind != 0 {
		return api.ErrTwice
	}
	if own(e) {
		if len(m.now()) > 0 {
			return api.ErrState
		}
	} else if m.now()[string(e.Domain)].Kind != api.EntryDomain {
		return api.ErrNone
	}
	packages, standards := 0, 0
	for _, x := range m.now() {
		if x.Kind == api.EntryPackage && x.Package == e.Package {
			packages++
		}
		standards += x.Privileges & 1
	}
	switch {
	case e.Kind == api.EntryApp && packages == 0:
		return api.ErrNone
	case e.Kind == api.EntryPackage && packages > 0:
		return api.ErrTwice
	case e.Privileges%2 == 1 && standards > 0:
		return api.ErrState
	case len(m.now()) == 32:
		return api.ErrFull
	}
	return m.put(e.AID, e)
}

func (m *model) Remove(aid []byte) api.Errno {
	e, ok := m.now()[string(aid)]
	if !ok {
		return api.ErrNone
	}
	if own(e) {
		return api.ErrState
	}
	for _, x := range m.now() {
		if string(x.Domain) == string(aid) || x.Kind == api.EntryApp && e.Kind == api.EntryPackage && x.Package == e.Package {
			return api.ErrBusy
		}
	}
	return m.put(aid, api.Entry{})
}

func (m *model) Find(aid []byte) (api.Entry, bool) {
	e, ok := m.now()[string(aid)]
	return e, ok
}

func selectable(e api.Entry) bool {
	return (e.Kind == api.EntryApp || e.Kind == api.EntryDomain) && (e.State == 3 || e.State == 4)
}

func (m *model) Next(begin, after []byte) (api.Entry, bool) {
	for _, aid := range slices.Sorted(maps.Keys(m.now())) {
		if e := m.now()[aid]; selectable(e) && strings.HasPrefix(aid, string(begin)) && aid > string(after) {
			return e, true
		}
	}
	return api.Entry{}, false
}

func (m *model) SetState(aid []byte, state int) api.Errno {
	e, ok := m.now()[string(aid)]
	switch {
	case !ok:
		return api.ErrNone
	case e.Kind == api.EntryPackage || state != e.State+1 || state < 3 || state > 4:
		return api.ErrState
	}
	e.State = state
	return m.put(aid, e)
}

func (m *model) Lock(aid []byte, lock bool) api.Errno {
	e, ok := m.now()[string(aid)]
	switch {
	case !ok:
		return api.ErrNone
	case e.Kind == api.EntryPackage:
		return api.ErrType
	case own(e) || lock && e.State == 5 || !lock && e.State != 5:
		return api.ErrState
	case lock:
		return m.put(aid, with(e, 5, e.State, e.Privileges))
	}
	return m.put(aid, with(e, e.Before, 0, e.Privileges))
}

func (m *model) Move(aid, domain []byte) api.Errno {
	e, ok := m.now()[string(aid)]
	switch {
	case !ok:
		return api.ErrNone
	case e.Kind == api.EntryDomain:
		return api.ErrType
	case m.now()[string(domain)].Kind != api.EntryDomain:
		return api.ErrNone
	}
	e.Domain = bytes.Clone(domain)
	return m.put(aid, e)
}

func (m *model) List() []api.Entry {
	var l []api.Entry
	for _, aid := range slices.Sorted(maps.Keys(m.now())) {
		l = append(l, m.now()[aid])
	}
	return l
}

func (m *model) Default() (api.Entry, bool) {
	for _, e := range m.List() {
		if e.Privileges%2 == 1 && selectable(e) {
			return e, true
		}
	}
	return api.Entry{}, false
}

// call is a call of a registry.
type call func(r registrar) api.Errno

func adding(e api.Entry) call { return func(r registrar) api.Errno { return r.Add(e) } }

func removing(aid []byte) call { return func(r registrar) api.Errno { return r.Remove(aid) } }

func setting(aid []byte, state int) call {
	return func(r registrar) api.Errno { return r.SetState(aid, state) }
}

func locking(aid []byte, lock bool) call {
	return func(r registrar) api.Errno { return r.Lock(aid, lock) }
}

func moving(aid, to []byte) call { return func(r registrar) api.Errno { return r.Move(aid, to) } }

// pool returns the identifiers of random calls, some of which begin with others.
func pool() [][]byte {
	l := [][]byte{issuer, domain, library, purse, ticket, nobody, bytes.Repeat([]byte{0xa0}, 16), bytes.Repeat([]byte{0}, 16), {0xff, 0xff, 0xff, 0xff, 0xff}}
	for n := range 30 {
		l = append(l, append([]byte{0xa0, 0, 0, 0, byte(n % 3)}, make([]byte, n/3)...), append(bytes.Repeat([]byte{byte(100 + n)}, 5), byte(n)))
	}
	return l
}

func pick[T any](r *rand.Rand, l []T) T { return l[r.IntN(len(l))] }

// randomAID returns the identifier of an entry of a model, or another one.
func randomAID(r *rand.Rand, m *model) []byte {
	if l := m.List(); len(l) > 0 && r.IntN(4) > 0 {
		return pick(r, l).AID
	}
	if r.IntN(20) == 0 {
		return make([]byte, r.IntN(20))
	}
	return pick(r, pool())
}

// randomDomain returns the identifier of a domain of a model, or another one.
func randomDomain(r *rand.Rand, m *model) []byte {
	for range 10 {
		if e := pick(r, append(m.List(), issuerEntry(issuer))); e.Kind == api.EntryDomain && r.IntN(10) > 0 {
			return e.AID
		}
	}
	return randomAID(r, m)
}

func randomEntry(r *rand.Rand, m *model) api.Entry {
	aid := pick(r, pool())
	var e api.Entry
	switch n := r.IntN(20); {
	case n < 2:
		e = issuerEntry(aid)
	case n < 6:
		e = domainEntry(aid, randomDomain(r, m))
	case n < 10:
		e = packageEntry(aid, randomDomain(r, m), 1+r.IntN(6))
	default:
		e = appEntry(aid, randomDomain(r, m), 1+r.IntN(6))
	}
	if e.Kind != api.EntryPackage {
		e.State, e.Privileges = 2+r.IntN(3), r.IntN(32)&r.IntN(32)&^r.IntN(2)
		if r.IntN(6) == 0 {
			e.Before, e.State = e.State, api.AppLocked
		}
	}
	if r.IntN(30) == 0 {
		*pick(r, []*int{&e.Kind, &e.State, &e.Before, &e.Privileges, &e.Package, &e.Object}) += r.IntN(3) - 1
	}
	return e
}

func randomCall(r *rand.Rand, m *model) call {
	switch n := r.IntN(20); {
	case n < 9:
		return adding(randomEntry(r, m))
	case n < 12:
		return removing(randomAID(r, m))
	case n < 15:
		return setting(randomAID(r, m), 1+r.IntN(5))
	case n < 18:
		return locking(randomAID(r, m), r.IntN(2) == 0)
	}
	return moving(randomAID(r, m), randomDomain(r, m))
}

// contents returns what can be seen as a text, with some searches.
func contents(x registrar) string {
	e, ok := x.Default()
	return texts(x.List()) + fmt.Sprintln("default", text(e), ok) + searches(x, purse, library)
}

// searches returns what is found with some identifiers as a text.
func searches(x registrar, l ...[]byte) string {
	var b strings.Builder
	for _, aid := range l {
		e, ok := x.Find(aid)
		fmt.Fprintln(&b, "find", text(e), ok)
		for _, begin := range [][]byte{nil, {0xa0, 0}, issuer} {
			e, ok := x.Next(begin, aid)
			fmt.Fprintln(&b, "next", text(e), ok)
		}
		e, ok = x.Next(aid, nil)
		fmt.Fprintln(&b, "next", text(e), ok)
	}
	return b.String()
}

func expectModel(t *testing.T, x registrar, m *model) {
	t.Helper()
	if got, want := contents(x), contents(m); got != want {
		t.Fatalf("the registry is\n%s\nand not\n%s", got, want)
	}
	expectConsistent(t, x.List())
}

// expectConsistent is P26.11.
func expectConsistent(t *testing.T, l []api.Entry) {
	t.Helper()
	kinds, packages, issuers, standards := map[string]int{}, map[int]int{}, 0, 0
	for _, e := range l {
		if registry.Check(e) != api.OK || kinds[string(e.AID)] != 0 {
			t.Fatalf("an entry is not valid, or comes twice:\n%s", texts(l))
		}
		kinds[string(e.AID)] = e.Kind
		if e.Kind == api.EntryPackage {
			packages[e.Package]++
		}
		if own(e) {
			issuers++
		}
		standards += e.Privileges & api.PrivDefault
	}
	if issuers != min(1, len(l)) || standards > 1 || len(l) > 32 {
		t.Fatal("there are", issuers, "issuer's domains,", standards, "entries with PrivDefault, and", len(l), "entries")
	}
	for _, e := range l {
		if kinds[string(e.Domain)] != api.EntryDomain {
			t.Fatal("there is no domain of", text(e))
		}
		if e.Kind != api.EntryDomain && packages[e.Package] != 1 {
			t.Fatal("the package of", text(e), "is there", packages[e.Package], "times")
		}
	}
}

// onBoth makes a call of a registry and of the model; it returns its error.
func onBoth(t *testing.T, x registrar, m *model, f call) api.Errno {
	t.Helper()
	got, want := f(x), f(m)
	if got != want {
		t.Fatalf("a call returns %d and not %d, and then the registry is\n%s", got, want, texts(x.List()))
	}
	return got
}

// filled returns a card with entries, and the model.
func filled(t *testing.T, words int) (*card, *model) {
	t.Helper()
	c, m := newCard(t, words), newModel()
	for _, e := range []api.Entry{issuerEntry(issuer), domainEntry(domain, issuer), packageEntry(library, domain, 1), appEntry(purse, domain, 1), packageEntry(nobody, issuer, 2)} {
		expect(t, "Add", onBoth(t, c.r, m, adding(e)), api.OK)
	}
	return c, m
}

// P26.3 to P26.11

// TestModel makes random calls, in transactions and outside, and compares all that can be seen. Now and then the vault is mounted again.
func TestModel(t *testing.T) {
	count, most := map[api.Errno]int{}, 0
	for seed := range uint64(12) {
		r := rand.New(rand.NewPCG(seed, 51))
		c, m := newCard(t, 16384), newModel()
		for i := range 500 {
			switch n := r.IntN(60); {
			case n == 0 && !m.active():
				c = mounted(t, c.mem)
			case n < 6:
				endOrBegin(t, r, c, m)
			default:
				count[onBoth(t, c.r, m, randomCall(r, m))]++
			}
			most = max(most, len(m.now()))
			if i%5 == 0 {
				expectModel(t, c.r, m)
			}
			if i%50 == 0 && searches(c.r, pool()...) != searches(m, pool()...) {
				t.Fatal("a search in the registry fails:\n", texts(c.r.List()))
			}
		}
		expectModel(t, c.r, m)
	}
	for _, e := range []api.Errno{api.OK, api.ErrArg, api.ErrNone, api.ErrState, api.ErrTwice, api.ErrBusy, api.ErrType, api.ErrFull} {
		if count[e] < 20 {
			t.Error("the result", e, "occurred", count[e], "times")
		}
	}
	if most < 32 {
		t.Error("there were at most", most, "entries")
	}
}

// endOrBegin begins a transaction, or ends the current one, or goes back in it. Each call that succeeds makes one change.
func endOrBegin(t *testing.T, r *rand.Rand, c *card, m *model) {
	t.Helper()
	switch n := r.IntN(4); {
	case !m.active():
		expect(t, "Begin", c.v.Begin(), m.begin())
	case n == 0:
		expect(t, "Abort", c.v.Abort(), m.abort())
	case n == 1:
		mark := r.IntN(c.v.Save() + 1)
		expect(t, "Back", c.v.Back(mark), api.OK)
		m.back(mark)
	default:
		expect(t, "Commit", c.v.Commit(), m.commit())
	}
}

// TestTwoObjectsOfModel opens the registry twice, and makes calls of both in turn.
func TestTwoObjectsOfModel(t *testing.T) {
	r := rand.New(rand.NewPCG(1, 52))
	c, m := newCard(t, 16384), newModel()
	other, e := registry.Open(c.v)
	expect(t, "Open", e, api.OK)
	for i := range 500 {
		onBoth(t, []registrar{c.r, other}[i%2], m, randomCall(r, m))
		if i%10 == 0 {
			endOrBegin(t, r, c, m)
			expectModel(t, c.r, m)
			expectModel(t, other, m)
		}
	}
}

// P26.12

// TestLockOfModel locks and unlocks all entries of random registries.
func TestLockOfModel(t *testing.T) {
	locked := 0
	for seed := range uint64(6) {
		r := rand.New(rand.NewPCG(seed, 53))
		c, m := filled(t, 16384)
		for range 150 {
			onBoth(t, c.r, m, randomCall(r, m))
		}
		for _, e := range c.r.List() {
			first := e.State != api.AppLocked
			if c.r.Lock(e.AID, first) != api.OK {
				continue
			}
			locked++
			if x, _ := c.r.Find(e.AID); registry.Same(x, e) {
				t.Error("Lock has not changed", text(e))
			}
			c.lock(t, e.AID, !first, api.OK)
			c.find(t, e)
		}
	}
	if locked < 20 {
		t.Error("only", locked, "entries were locked")
	}
}
