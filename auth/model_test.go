package auth_test

import (
	"bytes"
	"fmt"
	"maps"
	"math/rand/v2"
	"slices"
	"testing"

	"smartcard/api"
	"smartcard/auth"
	"smartcard/keys"
	"smartcard/vault"
)

// side is what Card and its model have in common.
type side interface {
	Begin(set int, host []byte) ([]byte, api.Errno)
	Finish(level int, data []byte) (api.Session, []byte, int, api.Errno)
}

// model is the card's side as the document defines it, on a vault of its own.
type model struct {
	k     *keys.Keys
	v     *vault.Vault
	begun *begun // nothing if no authentication is in progress
}

// begun is what counts at the end of an authentication.
type begun struct {
	set, count int
	l          []api.Key
	host       []byte
}

func isValidLevel(level int) bool { return slices.Contains(validLevels, level) }

func (m *model) Begin(set int, host []byte) ([]byte, api.Errno) {
	m.begun = nil
	if set < 0 || set > 8 || len(host) != 8 {
		return nil, api.ErrArg
	}
	if !m.v.Alive() {
		return nil, api.ErrPower
	}
	for n := 1; set == 0 && n <= 8; n++ {
		for kind := 1; kind <= 6; kind++ {
			if _, ok := m.k.Get(9-n, kind); ok {
				set = 9 - n
			}
		}
	}
	x := &begun{set: set, host: bytes.Clone(host)}
	tries := 0
	for kind := 1; kind <= 3; kind++ {
		key, ok := m.k.Get(set, kind)
		if !ok {
			return nil, api.ErrKey
		}
		x.l = append(x.l, key)
	}
	for _, info := range m.k.Info(set) {
		if info.Kind == 2 {
			tries = info.Tries
		}
	}
	if tries == 0 {
		return nil, api.ErrBlocked
	}
	if b, ok := m.v.Get(3 + set); ok {
		x.count = int(b[0])<<24 + int(b[1])<<16 + int(b[2])<<8 + int(b[3])
	}
	if x.count == maxCount {
		return nil, api.ErrFull
	}
	x.count++
	if e := m.v.Now(3+set, four(x.count)); e != api.OK {
		return nil, e
	}
	m.begun = x
	return responseFor(x.l, set, x.count, host), api.OK
}

// right returns what the terminal has to send for a level; nothing if no authentication is in progress.
func (m *model) right(level int) (api.Session, []byte) {
	if m.begun == nil {
		return api.Session{}, nil
	}
	return answerFor(m.begun.l, m.begun.count, m.begun.host, level)
}

func (m *model) Finish(level int, data []byte) (s api.Session, mac []byte, set int, e api.Errno) {
	if !isValidLevel(level) || len(data) != 16 {
		e = api.ErrArg
		return
	}
	x := m.begun
	want, answer := m.right(level)
	m.begun = nil
	if !m.v.Alive() {
		e = api.ErrPower
		return
	}
	if x == nil {
		e = api.ErrState
		return
	}
	if _, e = m.k.Spend(x.set, 2); e != api.OK {
		return
	}
	if !bytes.Equal(data, answer) {
		e = api.ErrWrong
		return
	}
	if e = m.k.Restore(x.set, 2); e != api.OK {
		return
	}
	return want, answer[8:], x.set, api.OK
}

// pair is a card and the model of it, on memories of the same kind.
type pair struct {
	card, twin *card
	m          *model
	marks      map[int]bool // those of the transaction that is in progress
}

func newPair(t *testing.T, words int) *pair {
	t.Helper()
	p := &pair{card: newCard(t, words), twin: newCard(t, words), marks: map[int]bool{}}
	p.m = &model{k: p.twin.k, v: p.twin.v}
	return p
}

// remount mounts both vaults again.
func (p *pair) remount(t *testing.T) {
	t.Helper()
	p.card, p.twin = mounted(t, p.card.mem), mounted(t, p.twin.mem)
	p.m = &model{k: p.twin.k, v: p.twin.v}
}

// contents returns all items of a vault as a text.
func contents(v *vault.Vault) string {
	text := ""
	for _, id := range v.IDs() {
		b, _ := v.Get(id)
		text += fmt.Sprintf("%d %x\n", id, b)
	}
	return text
}

// both does something with the vaults and the keys of both.
func (p *pair) both(t *testing.T, do func(c *card) api.Errno) {
	t.Helper()
	if got, want := do(p.card), do(p.twin); got != want {
		t.Fatal("a call returns", got, "and not", want)
	}
}

// call makes a call of the card and of the model, whose results are texts. It returns the error.
func (p *pair) call(t *testing.T, f func(s side) (string, api.Errno)) api.Errno {
	t.Helper()
	want, wantE := f(p.m)
	got, e := f(p.card.a)
	if got != want || e != wantE {
		t.Fatal("a call returns", got, e, "and not", want, wantE)
	}
	if got, want := contents(p.card.v), contents(p.twin.v); got != want {
		t.Fatalf("the items are\n%s\nand not\n%s", got, want)
	}
	return e
}

// randomBegin returns a call of Begin.
func randomBegin(r *rand.Rand) func(s side) (string, api.Errno) {
	set, host := r.IntN(4), filled(r, 8)
	if r.IntN(15) == 0 {
		set = []int{-1, 9, 1 << 40, 8, 7, 5}[r.IntN(6)]
	}
	if r.IntN(15) == 0 {
		host = filled(r, r.IntN(20))
	}
	return func(s side) (string, api.Errno) {
		b, e := s.Begin(set, host)
		return fmt.Sprintf("%x", b), e
	}
}

// randomFinish returns a call of Finish, often with data that are right.
func (p *pair) randomFinish(r *rand.Rand) func(s side) (string, api.Errno) {
	level := validLevels[r.IntN(6)]
	_, data := p.m.right(level)
	switch n := r.IntN(20); {
	case n == 0:
		level = invalidLevels[r.IntN(len(invalidLevels))]
	case n == 1:
		level = validLevels[r.IntN(6)]
	case n == 2:
		data = filled(r, r.IntN(30))
	case n < 8 && len(data) > 0:
		data[r.IntN(16)] ^= 1 << r.IntN(8)
	case n < 10 || len(data) == 0:
		data = filled(r, 16)
	}
	return func(s side) (string, api.Errno) {
		x, mac, set, e := s.Finish(level, data)
		return fmt.Sprintf("%x %x %x %x %d %x %d", x.Enc, x.Mac, x.RMac, x.Data, x.Level, mac, set), e
	}
}

// randomKey puts, deletes, spends or restores a key of both.
func (p *pair) randomKey(t *testing.T, r *rand.Rand) {
	t.Helper()
	set, kind := 1+r.IntN(3), 1+r.IntN(4)
	x := api.Key{Set: set, Kind: kind, Value: filled(r, 16), Limit: 1 + r.IntN(4)}
	n := r.IntN(40)
	p.both(t, func(c *card) api.Errno {
		switch {
		case n < 3:
			return c.k.Delete(set)
		case n < 9:
			for _, x := range keysOf(set) {
				if e := c.k.Put(x); e != api.OK {
					return e
				}
			}
			return api.OK
		case n < 16:
			return c.k.Put(x)
		case n < 18:
			return c.k.Restore(set, 2)
		}
		_, e := c.k.Spend(set, 2)
		return e
	})
}

// randomItem changes the counter of a set, as nobody does whom the document knows.
func (p *pair) randomItem(t *testing.T, r *rand.Rand) {
	t.Helper()
	set, count := 1+r.IntN(3), []int{0, r.IntN(1 << 31), maxCount, maxCount - 1}[r.IntN(4)]
	gone := r.IntN(3) == 0
	p.both(t, func(c *card) api.Errno {
		if gone {
			return c.v.Delete(3 + set)
		}
		return c.v.Put(3+set, four(count))
	})
}

// transact begins or ends a transaction, or goes back in it.
func (p *pair) transact(t *testing.T, r *rand.Rand) {
	t.Helper()
	n, l := r.IntN(4), slices.Sorted(maps.Keys(p.marks))
	if n == 3 && len(l) > 0 {
		mark := l[r.IntN(len(l))]
		p.both(t, func(c *card) api.Errno { return c.v.Back(mark) })
		maps.DeleteFunc(p.marks, func(other int, _ bool) bool { return other > mark })
		return
	}
	p.both(t, func(c *card) api.Errno {
		if n == 0 {
			return c.v.Commit()
		}
		if n == 1 {
			return c.v.Abort()
		}
		return c.v.Begin()
	})
	if !p.card.v.Active() {
		clear(p.marks)
	}
}

// P23.5 and P23.6

// TestModel makes random calls, in transactions and outside. Now and then the vault is mounted again.
func TestModel(t *testing.T) {
	begun, finished := map[api.Errno]int{}, map[api.Errno]int{}
	for seed := range uint64(12) {
		r := rand.New(rand.NewPCG(seed, 231))
		p := newPair(t, 16384)
		p.both(t, func(c *card) api.Errno {
			c.put(t, keysOf(1)...)
			c.put(t, keysOf(3)...)
			return api.OK
		})
		for range 800 {
			switch n := r.IntN(100); {
			case n < 2 && !p.card.v.Active():
				p.remount(t)
			case n < 12:
				p.transact(t, r)
			case n < 45:
				p.randomKey(t, r)
			case n < 48:
				p.randomItem(t, r)
			case n < 75:
				begun[p.call(t, randomBegin(r))]++
			default:
				finished[p.call(t, p.randomFinish(r))]++
			}
			if p.card.v.Active() {
				p.marks[p.card.v.Save()] = true
			}
		}
	}
	for _, e := range []api.Errno{api.OK, api.ErrArg, api.ErrKey, api.ErrBlocked, api.ErrFull, api.ErrState} {
		if begun[e] < 20 {
			t.Error("the result", e, "of Begin occurred", begun[e], "times")
		}
	}
	for _, e := range []api.Errno{api.OK, api.ErrArg, api.ErrKey, api.ErrBlocked, api.ErrWrong, api.ErrState} {
		if finished[e] < 5 {
			t.Error("the result", e, "of Finish occurred", finished[e], "times")
		}
	}
}

// P23.7 to P23.9

// hostModel is the terminal's side as the document defines it.
type hostModel struct {
	l       []api.Key
	host    []byte // nothing if no authentication is in progress
	s       api.Session
	mac     []byte
	success bool
}

func (m *hostModel) Begin(challenge []byte) api.Errno {
	if len(challenge) != 8 {
		return api.ErrArg
	}
	*m = hostModel{l: m.l, host: bytes.Clone(challenge)}
	return api.OK
}

func (m *hostModel) Finish(response []byte, level int) ([]byte, api.Errno) {
	if !isValidLevel(level) {
		return nil, api.ErrArg
	}
	host := m.host
	if host == nil {
		return nil, api.ErrState
	}
	m.host = nil
	if len(response) != 21 || response[0] == 0 || response[0] > 8 || response[1] > 0x7f {
		return nil, api.ErrForm
	}
	count := int(response[1])<<24 + int(response[2])<<16 + int(response[3])<<8 + int(response[4])
	if !bytes.Equal(response, responseFor(m.l, int(response[0]), count, host)) {
		return nil, api.ErrWrong
	}
	s, data := answerFor(m.l, count, host, level)
	m.s, m.mac, m.success = s, data[8:], true
	return data, api.OK
}

func (m *hostModel) Session() (api.Session, []byte, bool) { return m.s, m.mac, m.success }

// randomResponse returns a response, which is often the right one for an authentication that is in progress.
func (m *hostModel) randomResponse(r *rand.Rand) []byte {
	host := m.host
	if host == nil {
		host = host8
	}
	b := responseFor(m.l, 1+r.IntN(8), r.IntN(1<<31), host)
	switch n := r.IntN(10); {
	case n < 2:
		b[r.IntN(21)] ^= 1 << r.IntN(8)
	case n < 3:
		b = b[:r.IntN(21)]
	}
	return b
}

// TestHostModel makes random calls of a terminal.
func TestHostModel(t *testing.T) {
	count := map[api.Errno]int{}
	for seed := range uint64(20) {
		r := rand.New(rand.NewPCG(seed, 232))
		l := keysOf(1 + r.IntN(8))
		h, m := auth.NewHost(l), &hostModel{l: l}
		for range 100 {
			if r.IntN(3) == 0 {
				host := filled(r, 8-r.IntN(6)/5)
				expect(t, "Begin", h.Begin(host), m.Begin(host))
			} else {
				response, level := m.randomResponse(r), validLevels[r.IntN(6)]
				if r.IntN(10) == 0 {
					level = invalidLevels[r.IntN(len(invalidLevels))]
				}
				want, wantE := m.Finish(response, level)
				got, e := h.Finish(response, level)
				if !bytes.Equal(got, want) || e != wantE {
					t.Fatal("Finish returns", got, e, "and not", want, wantE)
				}
				count[e]++
			}
			want, wantMac, wantOK := m.Session()
			if s, mac, ok := h.Session(); !equal(s, want) || !bytes.Equal(mac, wantMac) || ok != wantOK {
				t.Fatal("Session returns", s, mac, ok, "and not", want, wantMac, wantOK)
			}
		}
	}
	for _, e := range []api.Errno{api.OK, api.ErrArg, api.ErrState, api.ErrForm, api.ErrWrong} {
		if count[e] < 30 {
			t.Error("the result", e, "occurred", count[e], "times")
		}
	}
}
