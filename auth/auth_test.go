package auth_test

import (
	"bytes"
	"encoding/hex"
	"math"
	"math/rand/v2"
	"slices"
	"testing"

	"smartcard/api"
	"smartcard/auth"
	"smartcard/cell"
	"smartcard/keys"
	"smartcard/mode"
	"smartcard/vault"
)

const (
	forever  = 1 << 40 // an endurance that no test reaches
	maxCount = 1<<31 - 1
)

var (
	zero8 = make([]byte, 8)
	host8 = raw("1011121314151617")
	card8 = raw("f0e1d2c3b4a59687")

	validLevels   = []int{0, 1, 3, 0x11, 0x13, 0x33}
	invalidLevels = []int{-1, 2, 4, 5, 0x10, 0x12, 0x20, 0x21, 0x23, 0x30, 0x31, 0x32, 0x34, 0x37, 0x40, 0x80, 0x81, 0xff, 0x100, 0x101, 0x133, 1 << 32, 1<<32 + 1, math.MinInt, math.MinInt + 1, math.MaxInt}

	strangeCounts = []int{-1, -1 << 31, math.MinInt, maxCount + 1, 1 << 32, 1<<32 + 1, math.MaxInt}
)

// raw returns the bytes that a hexadecimal text denotes.
func raw(text string) []byte {
	b, err := hex.DecodeString(text)
	if err != nil {
		panic(text)
	}
	return b
}

// must returns the result of a call that succeeds.
func must(b []byte, e api.Errno) []byte {
	if e != api.OK {
		panic(e)
	}
	return b
}

// filled returns random bytes.
func filled(r *rand.Rand, n int) []byte {
	b := make([]byte, n)
	for i := range b {
		b[i] = byte(r.IntN(256))
	}
	return b
}

// fenced returns a copy of bytes with others behind them, and a function that reports whether all are as they were.
func fenced(b []byte) ([]byte, func() bool) {
	all := slices.Concat(b, raw("eeeeeeeeeeeeeeee"))
	before := bytes.Clone(all)
	return all[:len(b)], func() bool { return bytes.Equal(all, before) }
}

// card is a memory, and what lies on it.
type card struct {
	mem *cell.Memory
	v   *vault.Vault
	k   *keys.Keys
	a   *auth.Card
}

// newCard returns a new card whose memory has a number of words.
func newCard(t *testing.T, words int) *card {
	t.Helper()
	m, _, e := vault.New(api.MemoryConfig{Words: words, Endurance: forever})
	expect(t, "vault.New", e, api.OK)
	return mounted(t, m)
}

// mounted returns the card with a memory that has power.
func mounted(t *testing.T, m *cell.Memory) *card {
	t.Helper()
	v, e := vault.Mount(m)
	expect(t, "Mount", e, api.OK)
	k, e := keys.Open(v)
	expect(t, "keys.Open", e, api.OK)
	a := auth.NewCard(k, v)
	if a == nil {
		t.Fatal("NewCard returns nil")
	}
	return &card{m, v, k, a}
}

// cardWith returns a new card with the keys of some sets.
func cardWith(t *testing.T, sets ...int) *card {
	t.Helper()
	c := newCard(t, 16384)
	for _, set := range sets {
		c.put(t, keysOf(set)...)
	}
	return c
}

// keysOf returns the keys of a set; that of the kind n has the limit n + 1.
func keysOf(set int) []api.Key {
	var l []api.Key
	for kind := 1; kind <= 6; kind++ {
		b := make([]byte, 16)
		for i := range b {
			b[i] = byte(set*17 + kind*31 + i*(set+kind+3))
		}
		l = append(l, api.Key{Set: set, Kind: kind, Value: b, Limit: kind + 1})
	}
	return l
}

func expect(t *testing.T, what string, got, want api.Errno) {
	t.Helper()
	if got != want {
		t.Fatal(what, "returns", got, "and not", want)
	}
}

func (c *card) put(t *testing.T, l ...api.Key) {
	t.Helper()
	for _, x := range l {
		expect(t, "Put", c.k.Put(x), api.OK)
	}
}

// tries expects a number of tries of the key KeyMac of a set.
func (c *card) tries(t *testing.T, set, want int) {
	t.Helper()
	for _, x := range c.k.Info(set) {
		if x.Kind == api.KeyMac && x.Tries == want {
			return
		}
	}
	t.Fatal("the keys are", c.k.Info(set), "and not with the tries", want)
}

// counter expects a sequence counter of a set; -1 stands for no item.
func (c *card) counter(t *testing.T, set, want int) {
	t.Helper()
	b, ok := c.v.Get(api.ItemCard + 2 + set)
	if want < 0 && !ok || ok && bytes.Equal(b, four(want)) {
		return
	}
	t.Fatalf("the item of the counter is %x %v and should be %d", b, ok, want)
}

// setCounter stores a sequence counter.
func (c *card) setCounter(t *testing.T, set, count int) {
	t.Helper()
	expect(t, "Put", c.v.Put(api.ItemCard+2+set, four(count)), api.OK)
}

// begin begins an authentication, and returns the response, which is compared with its definition.
func (c *card) begin(t *testing.T, set, count int) []byte {
	t.Helper()
	got, e := c.a.Begin(set, host8)
	expect(t, "Begin", e, api.OK)
	if want := responseFor(keysOf(set), set, count, host8); !bytes.Equal(got, want) {
		t.Fatalf("Begin returns %x and not %x", got, want)
	}
	return got
}

// fail expects an error of Begin.
func (c *card) fail(t *testing.T, set int, host []byte, want api.Errno) {
	t.Helper()
	if b, e := c.a.Begin(set, host); len(b) > 0 || e != want {
		t.Fatalf("Begin returns %x %d and not %d", b, e, want)
	}
}

// refuse expects an error of Finish.
func (c *card) refuse(t *testing.T, level int, data []byte, want api.Errno) {
	t.Helper()
	s, mac, set, e := c.a.Finish(level, data)
	if !equal(s, api.Session{}) || len(mac) > 0 || set != 0 || e != want {
		t.Fatal("Finish returns", s, mac, set, e, "and not", want)
	}
}

// finish expects that Finish succeeds.
func (c *card) finish(t *testing.T, level int, data []byte, want api.Session, wantMac []byte, wantSet int) {
	t.Helper()
	s, mac, set, e := c.a.Finish(level, data)
	if !equal(s, want) || !bytes.Equal(mac, wantMac) || set != wantSet || e != api.OK {
		t.Fatal("Finish returns", s, mac, set, e, "and not", want, wantMac, wantSet)
	}
}

// complete expects that Finish accepts what the terminal with the keys of a set has to send.
func (c *card) complete(t *testing.T, set, count, level int) {
	t.Helper()
	s, data := answerFor(keysOf(set), count, host8, level)
	c.finish(t, level, data, s, data[8:], set)
}

func equal(a, b api.Session) bool {
	return bytes.Equal(a.Enc, b.Enc) && bytes.Equal(a.Mac, b.Mac) && bytes.Equal(a.RMac, b.RMac) && bytes.Equal(a.Data, b.Data) && a.Level == b.Level
}

// The definitions

// four returns the bytes of a counter.
func four(n int) []byte { return []byte{byte(n >> 24), byte(n >> 16), byte(n >> 8), byte(n)} }

// of returns the value of the first key of a kind.
func of(l []api.Key, kind int) []byte {
	for _, x := range l {
		if x.Kind == kind {
			return x.Value
		}
	}
	return nil
}

func challengeOf(mac []byte, count int) []byte { return must(mode.MAC(mac, zero8, four(count))) }

func sessionOf(l []api.Key, count int, host, card []byte, level int) api.Session {
	key := func(kind, label int) []byte {
		return must(mode.Derive(of(l, kind), slices.Concat([]byte{byte(label)}, four(count), host, card)))
	}
	return api.Session{Enc: key(api.KeyEnc, 1), Mac: key(api.KeyMac, 2), RMac: key(api.KeyMac, 3), Data: key(api.KeyData, 4), Level: level}
}

func cardProof(s api.Session, host, card []byte) []byte {
	return must(mode.MAC(s.Enc, zero8, slices.Concat(host, card)))
}

func hostProof(s api.Session, host, card []byte) []byte {
	return must(mode.MAC(s.Enc, zero8, slices.Concat(card, host)))
}

// responseFor returns what Begin has to return.
func responseFor(l []api.Key, set, count int, host []byte) []byte {
	card := challengeOf(of(l, api.KeyMac), count)
	return slices.Concat([]byte{byte(set)}, four(count), card, cardProof(sessionOf(l, count, host, card, 0), host, card))
}

// answerFor returns the session, and the data that Finish of the card has to accept.
func answerFor(l []api.Key, count int, host []byte, level int) (api.Session, []byte) {
	card := challengeOf(of(l, api.KeyMac), count)
	s := sessionOf(l, count, host, card, level)
	proof := hostProof(s, host, card)
	return s, slices.Concat(proof, must(mode.MAC(s.Mac, zero8, slices.Concat([]byte{0x84, 0x82, byte(level), 0, 0x10}, proof))))
}

// Examples

func TestExample(t *testing.T) {
	c := newCard(t, 16384)
	l, e := keys.Master(1, slices.Repeat([]byte{0x11}, 16))
	expect(t, "Master", e, api.OK)
	c.put(t, l...)
	c.refuse(t, 0, make([]byte, 16), api.ErrState)
	for count := range 3 {
		b, e := c.a.Begin(0, make([]byte, 8))
		if e != api.OK || len(b) != 21 || !bytes.Equal(b[:5], []byte{1, 0, 0, 0, byte(count + 1)}) {
			t.Fatal("Begin returns", b, e)
		}
	}
}

// vector is an authentication with the set 1, derived from a master key of 16 bytes 11, and with host8, as a separate implementation has computed it.
type vector struct {
	count                int
	enc, mac, rmac, data string
	response             string
	answers              [6]string // for validLevels
}

func vectors() []vector {
	return []vector{
		{1, "f5fd0f08884d5235f6553aff23c8fe86", "098902136da5abd86387976cb9e644aa", "9836f9eeac4e65712356f39aa8e7b088", "1fbfee0bac422ffd06cf60f3489efb55",
			"0100000001ed83a91693a4f008094eddf426777d21",
			[6]string{"12d1e9c02dc0c0f3f2c663093fef80ad", "12d1e9c02dc0c0f3be685b29490a8960", "12d1e9c02dc0c0f3a64042fd4800f69a", "12d1e9c02dc0c0f3b1c30eefbe63fde8", "12d1e9c02dc0c0f3eac2ecc5446bdf74", "12d1e9c02dc0c0f3e239408416eb42cc"}},
		{2, "a36c9f099dc1c5f6d0388dcd0f0d98e3", "f9cda359f3715f405e03b0dfd9c6d67f", "fd686bd50e9bae96df7440f2d268939e", "6b95ae87ffd848ae75dd8101a960b7ea",
			"01000000027a796fed19c385654c744ea7ba321193",
			[6]string{"13f7fa19ec3ee49c45d319f64391efff", "13f7fa19ec3ee49cb57d91b8e9758ef6", "13f7fa19ec3ee49c790f58a72e19fcae", "13f7fa19ec3ee49c87f1d5f6096dd02c", "13f7fa19ec3ee49cfbc977c2769f940d", "13f7fa19ec3ee49c2afb3d51b49a7925"}},
		{maxCount, "c192ed679d96542b6cc47e7ec01ebe36", "7186b49d80f577da4b1d17ca229ab152", "1f4201ae26b354e48d18956f09f38f34", "76452d79df83b060d6a110ea6eb116c4",
			"017fffffffe7a21b051f10b8728333560bc5124c5f",
			[6]string{"48cb099d204f27308aca88c83e271da5", "48cb099d204f2730a67de3d8c9b01ad0", "48cb099d204f2730d33f4efec884f3f2", "48cb099d204f2730d880fdf89d34807a", "48cb099d204f2730f8e867b25afbca5e", "48cb099d204f2730ddfbc87c6f372082"}},
	}
}

// session returns the session of a vector.
func (x vector) session(level int) api.Session {
	return api.Session{Enc: raw(x.enc), Mac: raw(x.mac), RMac: raw(x.rmac), Data: raw(x.data), Level: level}
}

func TestVectors(t *testing.T) {
	l, e := keys.Master(1, slices.Repeat([]byte{0x11}, 16))
	expect(t, "Master", e, api.OK)
	for _, x := range vectors() {
		response := raw(x.response)
		card := response[5:13]
		if got := must(auth.Challenge(l[1].Value, x.count)); !bytes.Equal(got, card) {
			t.Errorf("Challenge returns %x", got)
		}
		for i, level := range validLevels {
			s, e := auth.Session(l, x.count, host8, card, level)
			if e != api.OK || !equal(s, x.session(level)) {
				t.Error("Session returns", s, e)
			}
			if got := must(auth.Proof(s, 0, host8, card)); !bytes.Equal(got, response[13:]) {
				t.Errorf("Proof of the card is %x", got)
			}
			if got := must(auth.Proof(s, 1, host8, card)); !bytes.Equal(got, raw(x.answers[i])[:8]) {
				t.Errorf("Proof of the host is %x", got)
			}
			authenticate(t, l, x, level, raw(x.answers[i]))
		}
	}
}

// authenticate carries out the authentication of a vector.
func authenticate(t *testing.T, l []api.Key, x vector, level int, answer []byte) {
	t.Helper()
	c, h := newCard(t, 16384), auth.NewHost(l)
	c.put(t, l...)
	c.setCounter(t, 1, x.count-1)
	expect(t, "Begin", h.Begin(host8), api.OK)
	if got, e := c.a.Begin(0, host8); e != api.OK || !bytes.Equal(got, raw(x.response)) {
		t.Fatalf("Begin returns %x %d", got, e)
	}
	if got, e := h.Finish(raw(x.response), level); e != api.OK || !bytes.Equal(got, answer) {
		t.Fatalf("Finish returns %x %d", got, e)
	}
	c.finish(t, level, answer, x.session(level), answer[8:], 1)
}

// Objects

func TestNoCard(t *testing.T) {
	for _, a := range []*auth.Card{nil, {}} {
		c := &card{a: a}
		for _, set := range []int{0, 1, -1, 9} {
			c.fail(t, set, host8, api.ErrNil)
			c.fail(t, set, nil, api.ErrNil)
		}
		c.refuse(t, 0, make([]byte, 16), api.ErrNil)
		c.refuse(t, 2, nil, api.ErrNil)
	}
}

// expectNoSession expects that a terminal has no session.
func expectNoSession(t *testing.T, h *auth.Host) {
	t.Helper()
	if s, mac, ok := h.Session(); !equal(s, api.Session{}) || len(mac) > 0 || ok {
		t.Fatal("Session returns", s, mac, ok)
	}
}

func TestNoHost(t *testing.T) {
	for _, h := range []*auth.Host{nil, {}} {
		expect(t, "Begin", h.Begin(host8), api.ErrNil)
		expect(t, "Begin", h.Begin(nil), api.ErrNil)
		for _, level := range []int{0, 2} {
			if b, e := h.Finish(make([]byte, 21), level); len(b) > 0 || e != api.ErrNil {
				t.Error("Finish returns", b, e)
			}
		}
		expectNoSession(t, h)
	}
}

// P23.1

func TestChallenge(t *testing.T) {
	r := rand.New(rand.NewPCG(23, 1))
	for i := range 300 {
		mac, count := filled(r, 16), r.IntN(1<<31)
		if i < 4 {
			count = []int{0, 1, maxCount, maxCount - 1}[i]
		}
		whole, unchanged := fenced(mac)
		if got, e := auth.Challenge(whole, count); e != api.OK || !bytes.Equal(got, challengeOf(mac, count)) || !unchanged() {
			t.Error("Challenge returns", got, e)
		}
	}
}

func TestErrorsOfChallenge(t *testing.T) {
	for n := range 40 {
		if b, e := auth.Challenge(make([]byte, n), 1); n != 16 && (len(b) > 0 || e != api.ErrArg) {
			t.Error("Challenge with", n, "bytes returns", b, e)
		}
	}
	for _, count := range strangeCounts {
		for _, mac := range [][]byte{make([]byte, 16), nil} {
			if b, e := auth.Challenge(mac, count); len(b) > 0 || e != api.ErrArg {
				t.Error("Challenge of", count, "returns", b, e)
			}
		}
	}
}

// P23.2

// randomKeys returns the keys of a set in any order, perhaps with others behind them.
func randomKeys(r *rand.Rand) []api.Key {
	var l []api.Key
	for kind := 1; kind <= 6; kind++ {
		if kind <= 3 || r.IntN(2) == 0 {
			l = append(l, api.Key{Set: r.IntN(10), Kind: kind, Value: filled(r, 16), Limit: r.IntN(20)})
		}
	}
	r.Shuffle(len(l), func(i, j int) { l[i], l[j] = l[j], l[i] })
	for range r.IntN(4) {
		l = append(l, api.Key{Set: r.IntN(10), Kind: r.IntN(8), Value: filled(r, r.IntN(20))})
	}
	return l
}

func TestSession(t *testing.T) {
	r := rand.New(rand.NewPCG(23, 2))
	for i := range 300 {
		l, count, level := randomKeys(r), r.IntN(1<<31), validLevels[i%6]
		if i < 4 {
			count = []int{0, 1, maxCount, maxCount - 1}[i]
		}
		host, card := filled(r, 8), filled(r, 8)
		wholeHost, unchangedHost := fenced(host)
		wholeCard, unchangedCard := fenced(card)
		if got, e := auth.Session(l, count, wholeHost, wholeCard, level); e != api.OK || !equal(got, sessionOf(l, count, host, card, level)) || !unchangedHost() || !unchangedCard() {
			t.Fatal("Session returns", got, e)
		}
	}
}

// expectNone expects an error of Session.
func expectNone(t *testing.T, l []api.Key, count int, host, card []byte, level int, want api.Errno) {
	t.Helper()
	if s, e := auth.Session(l, count, host, card, level); !equal(s, api.Session{}) || e != want {
		t.Error("Session returns", s, e, "and not", want)
	}
}

func TestErrorsOfSession(t *testing.T) {
	for _, l := range [][]api.Key{keysOf(1), nil} { // ErrArg comes before ErrKey
		for _, level := range invalidLevels {
			expectNone(t, l, 1, host8, card8, level, api.ErrArg)
		}
		for _, count := range strangeCounts {
			expectNone(t, l, count, host8, card8, 0, api.ErrArg)
		}
		for n := range 20 {
			if n != 8 {
				expectNone(t, l, 1, make([]byte, n), card8, 0, api.ErrArg)
				expectNone(t, l, 1, host8, make([]byte, n), 0, api.ErrArg)
			}
		}
		expectNone(t, l, 1, nil, card8, 0, api.ErrArg)
		expectNone(t, l, 1, host8, nil, 0, api.ErrArg)
	}
}

// unsuitable returns lists of keys for which there is no session.
func unsuitable() [][]api.Key {
	l := [][]api.Key{nil, {{Kind: 0, Value: make([]byte, 16)}}}
	for i := range 3 {
		l = append(l, slices.Delete(keysOf(1), i, i+1), keysOf(1)[i:i+1])
		for n := range 40 {
			x := keysOf(1)
			x[i].Value = make([]byte, n)
			if n != 16 {
				l = append(l, x, append(x, keysOf(1)...)) // a second key of the kind does not help
			}
		}
	}
	return l
}

func TestUnsuitableKeys(t *testing.T) {
	for _, l := range unsuitable() {
		expectNone(t, l, 1, host8, card8, 0, api.ErrKey)
		if h := auth.NewHost(l); h != nil {
			t.Error("NewHost accepts", l)
		}
	}
}

// P23.3

func TestProof(t *testing.T) {
	r := rand.New(rand.NewPCG(23, 3))
	for range 300 {
		host, card, enc := filled(r, 8), filled(r, 8), filled(r, 16)
		s := api.Session{Enc: enc, Mac: filled(r, r.IntN(3)*8), Level: r.IntN(100)} // nothing else matters
		wholeHost, unchangedHost := fenced(host)
		wholeCard, unchangedCard := fenced(card)
		if got, e := auth.Proof(s, 0, wholeHost, wholeCard); e != api.OK || !bytes.Equal(got, cardProof(s, host, card)) {
			t.Error("Proof returns", got, e)
		}
		if got, e := auth.Proof(s, 1, wholeHost, wholeCard); e != api.OK || !bytes.Equal(got, hostProof(s, host, card)) {
			t.Error("Proof returns", got, e)
		}
		if !unchangedHost() || !unchangedCard() {
			t.Error("an argument was changed")
		}
	}
}

func TestErrorsOfProof(t *testing.T) {
	fail := func(n, who, host, card int) {
		t.Helper()
		if b, e := auth.Proof(api.Session{Enc: make([]byte, n)}, who, make([]byte, host), make([]byte, card)); len(b) > 0 || e != api.ErrArg {
			t.Error("Proof returns", b, e)
		}
	}
	for _, who := range []int{-1, 2, 256, 257, 1 << 32, math.MaxInt, math.MinInt} {
		fail(16, who, 8, 8)
	}
	for n := range 40 {
		for who := range 2 {
			if n != 16 {
				fail(n, who, 8, 8)
			}
			if n != 8 {
				fail(16, who, n, 8)
				fail(16, who, 8, n)
			}
		}
	}
	if b, e := auth.Proof(api.Session{}, 0, nil, nil); len(b) > 0 || e != api.ErrArg {
		t.Error("Proof returns", b, e)
	}
}

// P23.4

func TestNewCard(t *testing.T) {
	c := cardWith(t, 1)
	if auth.NewCard(nil, c.v) != nil || auth.NewCard(c.k, nil) != nil || auth.NewCard(nil, nil) != nil {
		t.Error("NewCard of nil is a card")
	}
	writes := c.mem.Writes()
	auth.NewCard(c.k, c.v)
	if c.mem.Writes() != writes {
		t.Error("NewCard has written something")
	}
	c.counter(t, 1, -1)
	c.a = auth.NewCard(&keys.Keys{}, &vault.Vault{}) // neither of them was created by its package
	c.fail(t, 0, host8, api.ErrPower)
	c.refuse(t, 0, make([]byte, 16), api.ErrPower)
}

// P23.5

func TestBegin(t *testing.T) {
	c := cardWith(t, 1, 2, 8)
	before := -1 // without an item the counter is 0
	for count := 1; count <= 3; count++ {
		for _, set := range []int{8, 1, 2} {
			c.counter(t, set, before)
			c.begin(t, set, count)
			c.counter(t, set, count)
			c.tries(t, set, 3)
		}
		before = count
	}
	c = mounted(t, c.mem)
	c.begin(t, 2, 4)
	c.counter(t, 8, 3)
	if ids := c.v.IDs(); !slices.Equal(ids[:4], []int{4, 5, 11, api.ItemKeys + 9}) {
		t.Error("the items are", ids)
	}
}

// TestGreatestSet is about the set 0, which stands for the greatest one that has a key, whatever its kind.
func TestGreatestSet(t *testing.T) {
	c := newCard(t, 16384)
	c.fail(t, 0, host8, api.ErrKey)
	c.put(t, keysOf(3)...)
	begin := func(set, count int) {
		t.Helper()
		if b, e := c.a.Begin(0, host8); e != api.OK || !bytes.Equal(b, responseFor(keysOf(set), set, count, host8)) {
			t.Fatal("Begin returns", b, e)
		}
		c.complete(t, set, count, 1)
	}
	begin(3, 1)
	c.put(t, keysOf(1)...)
	begin(3, 2)
	c.put(t, keysOf(8)...)
	begin(8, 1)
	expect(t, "Delete", c.k.Delete(8), api.OK)
	begin(3, 3)
	c.put(t, keysOf(5)[5])
	c.fail(t, 0, host8, api.ErrKey)
	c.counter(t, 5, -1)
	c.begin(t, 3, 4)
	expect(t, "Begin of a transaction", c.v.Begin(), api.OK)
	expect(t, "Delete", c.k.Delete(5), api.OK)
	begin(3, 5) // as the transaction sees it
	expect(t, "Abort", c.v.Abort(), api.OK)
	c.fail(t, 0, host8, api.ErrKey)
}

// expectIdle expects that no authentication is in progress.
func (c *card) expectIdle(t *testing.T, set int) {
	t.Helper()
	c.tries(t, set, 3)
	c.refuse(t, 0, make([]byte, 16), api.ErrState)
	c.tries(t, set, 3)
}

func TestArgumentsOfBegin(t *testing.T) {
	c := cardWith(t, 1)
	count := 0
	fail := func(set int, host []byte) {
		t.Helper()
		count++
		c.begin(t, 1, count)
		writes := c.mem.Writes()
		c.fail(t, set, host, api.ErrArg)
		if c.mem.Writes() != writes {
			t.Error("Begin has written something")
		}
		c.expectIdle(t, 1) // the earlier one is forgotten
	}
	for _, set := range []int{-1, 9, 10, 255, 256, 257, 1 << 32, 1<<32 + 1, math.MaxInt, math.MinInt} {
		fail(set, host8)
	}
	for n := range 20 {
		if n != 8 {
			fail(1, make([]byte, n))
			fail(0, make([]byte, n))
		}
	}
	fail(1, nil)
}

func TestKeysOfBegin(t *testing.T) {
	for missing := range 3 {
		c := cardWith(t, 1)
		for i, x := range keysOf(2) {
			if i != missing {
				c.put(t, x)
			}
		}
		for _, set := range []int{0, 2, 3, 4, 8} {
			c.begin(t, 1, 1)
			writes := c.mem.Writes()
			c.fail(t, set, host8, api.ErrKey)
			if c.mem.Writes() != writes {
				t.Error("Begin has written something")
			}
			c.expectIdle(t, 1)
			c.setCounter(t, 1, 0)
		}
		c.counter(t, 2, -1)
		c.put(t, keysOf(2)[missing])
		c.begin(t, 2, 1)
	}
}

// TestSmallestKeys is about a set that has the three keys and no other ones.
func TestSmallestKeys(t *testing.T) {
	c := newCard(t, 16384)
	c.put(t, keysOf(4)[:3]...)
	c.begin(t, 4, 1)
	c.complete(t, 4, 1, 0x33)
}

func TestBlockedKey(t *testing.T) {
	c := cardWith(t, 1)
	for _, kind := range []int{1, 3, 4, 5, 6} { // the tries of other keys do not matter
		for range 8 {
			c.k.Spend(1, kind)
		}
	}
	for count := 1; count <= 3; count++ {
		c.begin(t, 1, count)
		c.refuse(t, 0, make([]byte, 16), api.ErrWrong)
	}
	c.setCounter(t, 1, maxCount) // ErrBlocked comes before ErrFull
	for _, set := range []int{1, 0} {
		c.fail(t, set, host8, api.ErrBlocked)
	}
	c.counter(t, 1, maxCount)
	c.refuse(t, 0, make([]byte, 16), api.ErrState)
	expect(t, "Restore", c.k.Restore(1, api.KeyMac), api.OK)
	c.fail(t, 1, host8, api.ErrFull)
}

// TestBlockedWithoutKey is about a blocked key of a set that lacks another one: ErrKey comes first.
func TestBlockedWithoutKey(t *testing.T) {
	c := newCard(t, 16384)
	c.put(t, keysOf(1)[:2]...)
	for range 3 {
		c.k.Spend(1, api.KeyMac)
	}
	c.fail(t, 1, host8, api.ErrKey)
}

func TestGreatestCounter(t *testing.T) {
	c := cardWith(t, 1, 2)
	c.setCounter(t, 1, maxCount-2)
	c.begin(t, 1, maxCount-1)
	c.begin(t, 1, maxCount)
	for range 2 {
		c.fail(t, 1, host8, api.ErrFull)
		c.expectIdle(t, 1)
		c.counter(t, 1, maxCount)
	}
	c.begin(t, 2, 1)
}

// TestCounterWithManyDigits is about the carries between the bytes of the counter.
func TestCounterWithManyDigits(t *testing.T) {
	c := cardWith(t, 1)
	for _, count := range []int{0xff, 0x100, 0xffff, 0xffffff, 0x12345678, 0x7fffffff} {
		c.setCounter(t, 1, count-1)
		c.begin(t, 1, count)
		c.complete(t, 1, count, 1)
	}
}

// TestStrangeCounters is about items that are no counters.
func TestStrangeCounters(t *testing.T) {
	c := cardWith(t, 1)
	for _, b := range [][]byte{nil, {1}, {0, 0, 1}, {0, 0, 0, 0, 1}, raw("80000000"), raw("ffffffff"), make([]byte, 8), raw("8000000000000001"), make([]byte, 9)} {
		c.setCounter(t, 1, 0)
		c.begin(t, 1, 1)
		expect(t, "Put", c.v.Put(api.ItemCard+3, b), api.OK)
		c.fail(t, 1, host8, api.ErrCorrupt)
		c.expectIdle(t, 1)
		if got, ok := c.v.Get(api.ItemCard + 3); !ok || !bytes.Equal(got, b) {
			t.Error("the item was changed")
		}
	}
}

// TestCounterInTransaction is about the counter, which is increased at once.
func TestCounterInTransaction(t *testing.T) {
	c := cardWith(t, 1, 2)
	expect(t, "Begin of a transaction", c.v.Begin(), api.OK)
	c.begin(t, 1, 1)
	mounted(t, c.mem).counter(t, 1, 1)
	expect(t, "Abort", c.v.Abort(), api.OK)
	c.begin(t, 1, 2)
	expect(t, "Begin of a transaction", c.v.Begin(), api.OK)
	c.setCounter(t, 1, 7) // by nobody that the document knows
	save, writes := c.v.Save(), c.mem.Writes()
	c.fail(t, 1, host8, api.ErrState)
	c.expectIdle(t, 1)
	if c.v.Save() != save || c.mem.Writes() != writes {
		t.Error("Begin has changed something")
	}
	c.begin(t, 2, 1)
	expect(t, "Abort", c.v.Abort(), api.OK)
	c.begin(t, 1, 3)
	expect(t, "Begin of a transaction", c.v.Begin(), api.OK)
	expect(t, "Delete", c.v.Delete(api.ItemCard+3), api.OK)
	c.fail(t, 1, host8, api.ErrState)
	c.counter(t, 1, -1)
	expect(t, "Abort", c.v.Abort(), api.OK)
	c.counter(t, 1, 3)
}

// TestNoRoom is about a vault without room for a counter.
func TestNoRoom(t *testing.T) {
	c := newCard(t, 40*24) // with a room of 192
	c.put(t, keysOf(1)[:3]...)
	expect(t, "Put", c.v.Put(3000, make([]byte, 60)), api.OK)
	c.fail(t, 1, host8, api.ErrFull)
	c.expectIdle(t, 1)
	c.counter(t, 1, -1)
	expect(t, "Delete", c.v.Delete(3000), api.OK)
	c.begin(t, 1, 1)
}

// P23.6

func TestFinish(t *testing.T) {
	c := cardWith(t, 1, 7)
	for i, level := range validLevels {
		for _, set := range []int{1, 7} {
			c.begin(t, set, i+1)
			c.complete(t, set, i+1, level)
			c.tries(t, set, 3)
			c.expectIdle(t, set) // also for the same data
		}
	}
}

func TestArgumentsOfFinish(t *testing.T) {
	c := cardWith(t, 1)
	_, data := answerFor(keysOf(1), 1, host8, 1)
	refuse := func(level int, data []byte) {
		t.Helper()
		c.refuse(t, level, data, api.ErrArg)
	}
	for range 2 { // before Begin, too
		for _, level := range invalidLevels {
			refuse(level, data)
		}
		for n := range 40 {
			if n != 16 {
				refuse(1, make([]byte, n))
			}
		}
		refuse(1, nil)
		refuse(1, data[:15])
		refuse(1, append(bytes.Clone(data), 0))
		c.tries(t, 1, 3)
		c.setCounter(t, 1, 0)
		c.begin(t, 1, 1)
	}
	refuse(2, data)
	c.complete(t, 1, 1, 1) // it is still in progress
}

// TestSpentTries is about the tries of the key, of which one is spent by each call that compares something.
func TestSpentTries(t *testing.T) {
	c := cardWith(t, 1)
	for count := 1; count <= 9; count++ {
		c.begin(t, 1, count)
		if count%3 == 0 {
			c.complete(t, 1, count, 3)
			c.tries(t, 1, 3)
			continue
		}
		c.refuse(t, 3, make([]byte, 16), api.ErrWrong)
		c.tries(t, 1, 3-count%3)
		c.refuse(t, 3, make([]byte, 16), api.ErrState)
		c.tries(t, 1, 3-count%3)
	}
	for _, x := range c.k.Info(1) {
		if x.Tries != x.Kind+1 {
			t.Error("the tries of a key are", x)
		}
	}
}

// TestErrorsOfSpend is about a key that has changed after Begin.
func TestErrorsOfSpend(t *testing.T) {
	c := cardWith(t, 1)
	_, data := answerFor(keysOf(1), 1, host8, 1)
	begin := func() {
		t.Helper()
		c.setCounter(t, 1, 0)
		c.begin(t, 1, 1)
	}
	begin()
	expect(t, "Begin of a transaction", c.v.Begin(), api.OK)
	c.put(t, keysOf(1)[1])
	c.refuse(t, 1, data, api.ErrState)
	expect(t, "Abort", c.v.Abort(), api.OK)
	c.expectIdle(t, 1)
	begin()
	for range 3 {
		c.k.Spend(1, api.KeyMac)
	}
	c.refuse(t, 1, data, api.ErrBlocked)
	c.refuse(t, 1, data, api.ErrState)
	expect(t, "Restore", c.k.Restore(1, api.KeyMac), api.OK)
	begin()
	expect(t, "Delete", c.k.Delete(1), api.OK)
	c.refuse(t, 1, data, api.ErrKey)
	c.put(t, keysOf(1)...)
	c.expectIdle(t, 1)
}

// TestLaterKeys is about keys that are replaced after Begin: those from the time of Begin count, and the tries are those of the new key.
func TestLaterKeys(t *testing.T) {
	c := cardWith(t, 1)
	c.begin(t, 1, 1)
	for _, x := range keysOf(2)[:3] {
		x.Set, x.Limit = 1, 9
		c.put(t, x)
	}
	c.k.Spend(1, api.KeyMac)
	c.complete(t, 1, 1, 0x13)
	c.tries(t, 1, 9)
	b, e := c.a.Begin(1, host8)
	expect(t, "Begin", e, api.OK)
	if !bytes.Equal(b, responseFor(keysOf(2), 1, 2, host8)) {
		t.Errorf("Begin returns %x", b)
	}
	c.put(t, keysOf(1)...)
	_, data := answerFor(keysOf(1), 2, host8, 1)
	c.refuse(t, 1, data, api.ErrWrong)
	c.tries(t, 1, 2)
}

// TestTriesInTransaction is about tries, which are spent and restored at once.
func TestTriesInTransaction(t *testing.T) {
	c := cardWith(t, 1)
	c.begin(t, 1, 1)
	expect(t, "Begin of a transaction", c.v.Begin(), api.OK)
	c.refuse(t, 1, make([]byte, 16), api.ErrWrong)
	mounted(t, c.mem).tries(t, 1, 2)
	c.begin(t, 1, 2)
	c.refuse(t, 1, make([]byte, 16), api.ErrWrong)
	expect(t, "Abort", c.v.Abort(), api.OK)
	c.tries(t, 1, 1)
	expect(t, "Begin of a transaction", c.v.Begin(), api.OK)
	c.begin(t, 1, 3)
	c.complete(t, 1, 3, 1)
	expect(t, "Abort", c.v.Abort(), api.OK)
	c.tries(t, 1, 3)
}

// TestNoPower is about a card whose power was cut.
func TestNoPower(t *testing.T) {
	c := cardWith(t, 1)
	c.begin(t, 1, 1)
	_, data := answerFor(keysOf(1), 1, host8, 1)
	c.mem.Cut(0)
	expect(t, "Put", c.v.Put(3000, nil), api.ErrPower)
	for range 2 {
		c.refuse(t, 2, data, api.ErrArg)
		c.refuse(t, 1, data, api.ErrPower) // and not ErrState, although no authentication is in progress after the first call
		c.fail(t, 9, host8, api.ErrArg)
		c.fail(t, 3, host8, api.ErrPower)
		c.mem.Restore()
	}
	d := mounted(t, c.mem)
	d.counter(t, 1, 1)
	d.expectIdle(t, 1)
}

// TestTwoCards is about two objects on the same vault: each has an authentication of its own, but they share the counters and the tries.
func TestTwoCards(t *testing.T) {
	c := cardWith(t, 1)
	d := &card{c.mem, c.v, c.k, auth.NewCard(c.k, c.v)}
	c.begin(t, 1, 1)
	d.refuse(t, 1, make([]byte, 16), api.ErrState)
	d.begin(t, 1, 2)
	d.refuse(t, 1, make([]byte, 16), api.ErrWrong)
	c.tries(t, 1, 2)
	d.begin(t, 1, 3)
	c.complete(t, 1, 1, 1)
	d.tries(t, 1, 3)
	d.complete(t, 1, 3, 3)
}

// P23.7 to P23.9

// terminal returns a terminal with the keys of a set.
func terminal(t *testing.T, set int) *auth.Host {
	t.Helper()
	h := auth.NewHost(keysOf(set))
	if h == nil {
		t.Fatal("NewHost returns nil")
	}
	return h
}

// expectAnswer expects that Finish of a terminal with the keys of the set 1 succeeds.
func expectAnswer(t *testing.T, h *auth.Host, set, count, level int) {
	t.Helper()
	s, data := answerFor(keysOf(1), count, host8, level)
	if got, e := h.Finish(responseFor(keysOf(1), set, count, host8), level); e != api.OK || !bytes.Equal(got, data) {
		t.Fatalf("Finish returns %x %d and not %x", got, e, data)
	}
	for range 2 {
		if got, mac, ok := h.Session(); !ok || !equal(got, s) || !bytes.Equal(mac, data[8:]) {
			t.Fatal("Session returns", got, mac, ok)
		}
	}
}

// failFinish expects an error of Finish of a terminal.
func failFinish(t *testing.T, h *auth.Host, response []byte, level int, want api.Errno) {
	t.Helper()
	if b, e := h.Finish(response, level); len(b) > 0 || e != want {
		t.Fatalf("Finish returns %x %d and not %d", b, e, want)
	}
}

func TestHost(t *testing.T) {
	h := terminal(t, 1)
	expectNoSession(t, h)
	for i, level := range validLevels {
		for _, count := range []int{0, 1, 0x1234567, maxCount} {
			expect(t, "Begin", h.Begin(host8), api.OK)
			expectNoSession(t, h)
			expectAnswer(t, h, 1+(i+count)%8, count, level) // any number of a set
		}
	}
}

func TestErrorsOfHostBegin(t *testing.T) {
	h := terminal(t, 1)
	for n := range 20 {
		if n != 8 {
			expect(t, "Begin", h.Begin(make([]byte, n)), api.ErrArg)
		}
	}
	failFinish(t, h, responseFor(keysOf(1), 1, 1, host8), 0, api.ErrState)
	expect(t, "Begin", h.Begin(host8), api.OK)
	expect(t, "Begin", h.Begin(nil), api.ErrArg)
	expectAnswer(t, h, 1, 1, 0) // an error has changed nothing
	expect(t, "Begin", h.Begin(make([]byte, 7)), api.ErrArg)
	if _, _, ok := h.Session(); !ok {
		t.Error("an error of Begin has changed something")
	}
}

// TestHostBeginForgets is about an authentication that begins before the last one has ended.
func TestHostBeginForgets(t *testing.T) {
	h := terminal(t, 1)
	expect(t, "Begin", h.Begin(make([]byte, 8)), api.OK)
	expect(t, "Begin", h.Begin(host8), api.OK)
	expectAnswer(t, h, 1, 1, 0)
	expect(t, "Begin", h.Begin(card8), api.OK)
	expectNoSession(t, h)
	failFinish(t, h, responseFor(keysOf(1), 1, 1, host8), 0, api.ErrWrong)
	expectNoSession(t, h)
}

func TestOrderOfHostErrors(t *testing.T) {
	h := terminal(t, 1)
	response := responseFor(keysOf(1), 1, 1, host8)
	for _, level := range invalidLevels {
		failFinish(t, h, nil, level, api.ErrArg)
	}
	failFinish(t, h, response, 0, api.ErrState)
	failFinish(t, h, nil, 0, api.ErrState)
	expect(t, "Begin", h.Begin(host8), api.OK)
	for _, level := range invalidLevels {
		failFinish(t, h, response, level, api.ErrArg)
	}
	expectAnswer(t, h, 1, 1, 0x33) // it was still in progress
	failFinish(t, h, response, 2, api.ErrArg)
	failFinish(t, h, response, 0, api.ErrState)
	s, data := answerFor(keysOf(1), 1, host8, 0x33)
	if got, mac, ok := h.Session(); !ok || !equal(got, s) || !bytes.Equal(mac, data[8:]) {
		t.Error("an error has changed something:", got, mac, ok)
	}
}

// TestFormOfResponses is about responses that are none; the authentication ends with them.
func TestFormOfResponses(t *testing.T) {
	h := terminal(t, 1)
	response := responseFor(keysOf(1), 1, 1, host8)
	wrong := func(b []byte, want api.Errno) {
		t.Helper()
		expect(t, "Begin", h.Begin(host8), api.OK)
		failFinish(t, h, b, 0, want)
		failFinish(t, h, response, 0, api.ErrState)
		expectNoSession(t, h)
	}
	for n := range 60 {
		if n != 21 {
			wrong(append(bytes.Clone(response), make([]byte, 60)...)[:n], api.ErrForm)
		}
	}
	wrong(nil, api.ErrForm)
	for set := range 256 {
		if set < 1 || set > 8 {
			wrong(slices.Concat([]byte{byte(set)}, response[1:]), api.ErrForm)
		}
	}
	for _, count := range []int{1 << 31, 1<<31 + 1, 1<<32 - 1} {
		wrong(slices.Concat([]byte{1}, four(count), response[5:]), api.ErrForm)
	}
}

// TestWrongResponses inverts each bit of a response.
func TestWrongResponses(t *testing.T) {
	h := terminal(t, 1)
	response := responseFor(keysOf(1), 1, 5, host8)
	for bit := 8; bit < 21*8; bit++ {
		b := bytes.Clone(response)
		b[bit/8] ^= 0x80 >> (bit % 8)
		want := api.ErrWrong
		if bit == 8 { // the highest one of the counter
			want = api.ErrForm
		}
		expect(t, "Begin", h.Begin(host8), api.OK)
		failFinish(t, h, b, 1, want)
		failFinish(t, h, response, 1, api.ErrState)
		expectNoSession(t, h)
	}
	for _, b := range [][]byte{responseFor(keysOf(2), 1, 5, host8), responseFor(keysOf(1), 1, 5, card8), make([]byte, 21)} {
		b[0] = 1
		expect(t, "Begin", h.Begin(host8), api.OK)
		failFinish(t, h, b, 1, api.ErrWrong)
	}
}

// TestMixedResponses is about a right challenge with the cryptogram of another one, and the other way around.
func TestMixedResponses(t *testing.T) {
	h := terminal(t, 1)
	a, b := responseFor(keysOf(1), 1, 5, host8), responseFor(keysOf(1), 1, 6, host8)
	other := slices.Concat(a[:5], card8, cardProof(sessionOf(keysOf(1), 5, host8, card8, 0), host8, card8)) // a challenge that is not the one for the counter
	for _, x := range [][]byte{slices.Concat(a[:13], b[13:]), slices.Concat(a[:5], b[5:]), slices.Concat(b[:5], a[5:13], b[13:]), other} {
		expect(t, "Begin", h.Begin(host8), api.OK)
		failFinish(t, h, x, 1, api.ErrWrong)
	}
}

// TestKeysOfHost is about keys that come in another order, and with others.
func TestKeysOfHost(t *testing.T) {
	r := rand.New(rand.NewPCG(23, 7))
	for range 50 {
		l := randomKeys(r)
		h := auth.NewHost(l)
		expect(t, "Begin", h.Begin(host8), api.OK)
		s, data := answerFor(l, 9, host8, 3)
		response := responseFor(l, 1, 9, host8)
		for i := range l {
			clear(l[i].Value) // they are not kept
		}
		if got, e := h.Finish(response, 3); e != api.OK || !bytes.Equal(got, data) {
			t.Fatal("Finish returns", got, e)
		}
		if got, _, ok := h.Session(); !ok || !equal(got, s) {
			t.Fatal("Session returns", got, ok)
		}
	}
}

// P23.10

func TestAgreement(t *testing.T) {
	r := rand.New(rand.NewPCG(23, 10))
	for i := range 60 {
		set := 1 + i%8
		l := randomKeys(r)[:3]
		c := newCard(t, 8192)
		for kind := 1; kind <= 3; kind++ {
			c.put(t, api.Key{Set: set, Kind: kind, Value: filled(r, 16), Limit: 1 + r.IntN(15)})
			l[kind-1], _ = c.k.Get(set, kind)
		}
		h := auth.NewHost(l)
		for n := range 4 {
			host, level := filled(r, 8), validLevels[(i+n)%6]
			expect(t, "Begin", h.Begin(host), api.OK)
			response, e := c.a.Begin(set*(n%2), host)
			expect(t, "Begin", e, api.OK)
			data, e := h.Finish(response, level)
			expect(t, "Finish", e, api.OK)
			s, mac, ok := h.Session()
			if !ok || s.Level != level {
				t.Fatal("Session returns", s, ok)
			}
			c.finish(t, level, data, s, mac, set)
		}
	}
}

// P23.12

// TestWrongProofs inverts each bit of what Finish accepts, and tries what belongs to other levels, challenges and counters.
func TestWrongProofs(t *testing.T) {
	c := cardWith(t, 1)
	count := 0
	refuse := func(level int, change func(data []byte) []byte) {
		t.Helper()
		count++
		c.begin(t, 1, count)
		_, data := answerFor(keysOf(1), count, host8, level)
		c.refuse(t, level, change(data), api.ErrWrong)
		c.begin(t, 1, count+1)
		count++
		c.complete(t, 1, count, level)
	}
	for bit := range 16 * 8 {
		refuse(validLevels[bit%6], func(data []byte) []byte {
			data[bit/8] ^= 0x80 >> (bit % 8)
			return data
		})
	}
	for _, level := range validLevels {
		for _, other := range validLevels {
			if other != level {
				refuse(level, func([]byte) []byte { _, data := answerFor(keysOf(1), count, host8, other); return data })
			}
		}
		refuse(level, func([]byte) []byte { _, data := answerFor(keysOf(1), count-1, host8, level); return data })
		refuse(level, func([]byte) []byte { _, data := answerFor(keysOf(1), count, card8, level); return data })
		refuse(level, func([]byte) []byte { _, data := answerFor(keysOf(2), count, host8, level); return data })
		refuse(level, func(data []byte) []byte { return slices.Concat(data[8:], data[:8]) })
		refuse(level, func(data []byte) []byte { return slices.Concat(responseFor(keysOf(1), 1, count, host8)[13:], data[8:]) })
		refuse(level, func([]byte) []byte { return make([]byte, 16) })
	}
}

// Arguments and results

// TestMemoryOfCard is about arguments, which are neither changed nor kept, and results, which are new memory.
func TestMemoryOfCard(t *testing.T) {
	c := cardWith(t, 1)
	host, unchanged := fenced(host8)
	response, e := c.a.Begin(1, host)
	expect(t, "Begin", e, api.OK)
	if !unchanged() {
		t.Error("an argument was changed")
	}
	clear(host)
	clear(response)
	_, answer := answerFor(keysOf(1), 1, host8, 1)
	data, unchanged := fenced(answer)
	s, mac, _, e := c.a.Finish(1, data)
	expect(t, "Finish", e, api.OK)
	if !unchanged() {
		t.Error("an argument was changed")
	}
	clear(s.Enc)
	clear(data)
	if !bytes.Equal(mac, answer[8:]) || len(s.Mac) != 16 {
		t.Error("results share memory with an argument")
	}
	clear(mac)
	c.begin(t, 1, 2)
	c.complete(t, 1, 2, 1)
}

func TestMemoryOfHost(t *testing.T) {
	h := terminal(t, 1)
	host, unchanged := fenced(host8)
	expect(t, "Begin", h.Begin(host), api.OK)
	if !unchanged() {
		t.Error("an argument was changed")
	}
	clear(host)
	response, unchanged := fenced(responseFor(keysOf(1), 1, 1, host8))
	data, e := h.Finish(response, 1)
	expect(t, "Finish", e, api.OK)
	if !unchanged() {
		t.Error("an argument was changed")
	}
	clear(data)
	clear(response)
	want, answer := answerFor(keysOf(1), 1, host8, 1)
	for range 2 {
		s, mac, ok := h.Session()
		if !ok || !equal(s, want) || !bytes.Equal(mac, answer[8:]) {
			t.Fatal("Session returns", s, mac, ok)
		}
		for _, b := range [][]byte{s.Enc, s.Mac, s.RMac, s.Data, mac} {
			clear(b)
		}
	}
}
