package secure_test

import (
	"bytes"
	"math/rand/v2"
	"slices"
	"testing"

	"smartcard/apdu"
	"smartcard/api"
	"smartcard/mode"
	"smartcard/octets"
	"smartcard/secure"
)

// The definitions

// must returns the result of a call that succeeds.
func must(b []byte, e api.Errno) []byte {
	if e != api.OK {
		panic(e)
	}
	return b
}

// number returns a number in some bytes.
func number(n, width int) []byte { return must(octets.Put(n, width)) }

// initial returns the initial value for a counter, with its first byte.
func initial(s api.Session, count int, first byte) []byte {
	return must(mode.EncryptCBC(s.Enc, make([]byte, 8), slices.Concat([]byte{first}, number(count, 8)[1:])))
}

// encrypted returns the encryption of whole blocks.
func encrypted(s api.Session, count int, first byte, blocks []byte) []byte {
	return must(mode.EncryptCBC(s.Enc, initial(s, count, first), blocks))
}

// encryptedData returns encrypted data if the level has a bit.
func encryptedData(s api.Session, bit, count int, first byte, data []byte) []byte {
	if s.Level&bit == 0 || len(data) == 0 {
		return data
	}
	return encrypted(s, count, first, must(octets.Pad(data, 8)))
}

// commandMAC returns the MAC of a command with the protected class byte, whose data without the MAC are given.
func commandMAC(s api.Session, chain []byte, x api.Command, data []byte) []byte {
	block := slices.Concat(number(x.CLA, 1), number(x.INS, 1), number(x.P1, 1), number(x.P2, 1), number(len(data)+8, 3), number(x.Le, 3))
	return must(mode.MAC(s.Mac, chain, slices.Concat(block, data)))
}

func responseMAC(s api.Session, chain []byte, sw int, data []byte) []byte {
	return must(mode.MAC(s.RMac, chain, slices.Concat(data, number(sw, 2))))
}

// protectedCommand returns the protected command, and its MAC; without LevelMac the command itself, and no MAC.
func protectedCommand(s api.Session, chain []byte, count int, x api.Command) (api.Command, []byte) {
	if s.Level&1 == 0 {
		return x, nil
	}
	y := api.Command{CLA: x.CLA + 4, INS: x.INS, P1: x.P1, P2: x.P2, Le: x.Le}
	data := encryptedData(s, 2, count, 0, x.Data)
	mac := commandMAC(s, chain, y, data)
	y.Data = slices.Concat(data, mac)
	y.Long = x.Long || len(y.Data) > 255
	return y, mac
}

func protectedResponse(s api.Session, chain []byte, count int, r api.Response) api.Response {
	data := encryptedData(s, 0x20, count, 0x80, r.Data)
	return api.Response{Data: slices.Concat(data, responseMAC(s, chain, r.SW, data)), SW: r.SW}
}

// side is what Channel and its model have in common.
type side interface {
	Wrap(x api.Command) (api.Command, api.Errno)
	Unwrap(x api.Command) (api.Command, api.Errno)
	Seal(r api.Response) (api.Response, api.Errno)
	Open(r api.Response) (api.Response, api.Errno)
	Level() int
	Count() int
	Data() []byte
}

// model is a side as the document defines it.
type model struct {
	s               api.Session
	chain           []byte
	count           int
	expects, closed bool
}

// accept returns the error that a command has for both sides.
func (m *model) accept(x api.Command) api.Errno {
	if m.closed {
		return api.ErrState
	}
	if e := apdu.Check(x); e != api.OK {
		return e
	}
	if x.CLA&0x78 != 0 {
		return api.ErrForm
	}
	return api.OK
}

// plain returns data without their encryption, which they have if the level has a bit.
func (m *model) plain(bit int, iv, data []byte) ([]byte, api.Errno) {
	if m.s.Level&bit == 0 || len(data) == 0 {
		return data, api.OK
	}
	blocks, e := mode.DecryptCBC(m.s.Enc, iv, data)
	if e != api.OK {
		return nil, api.ErrForm
	}
	return octets.Unpad(blocks)
}

func (m *model) Wrap(x api.Command) (api.Command, api.Errno) {
	if e := m.accept(x); e != api.OK {
		return api.Command{}, e
	}
	if x.CLA&4 != 0 {
		return api.Command{}, api.ErrForm
	}
	y, mac := protectedCommand(m.s, m.chain, m.count+1, x)
	if len(y.Data) > 65535 {
		return api.Command{}, api.ErrLong
	}
	m.count++
	m.expects = true
	if mac != nil {
		m.chain = mac
	}
	return y, api.OK
}

func (m *model) Unwrap(x api.Command) (y api.Command, e api.Errno) {
	defer func() {
		if e != api.OK {
			m.closed, y = true, api.Command{}
		}
	}()
	if e = m.accept(x); e != api.OK {
		return
	}
	if m.s.Level == 0 {
		if x.CLA&4 != 0 {
			return y, api.ErrForm
		}
		m.count, m.expects = m.count+1, true
		return x, api.OK
	}
	if x.CLA&4 == 0 || len(x.Data) < 8 {
		return y, api.ErrShort
	}
	data, mac := x.Data[:len(x.Data)-8], x.Data[len(x.Data)-8:]
	if !bytes.Equal(mac, commandMAC(m.s, m.chain, x, data)) {
		return y, api.ErrWrong
	}
	if data, e = m.plain(2, initial(m.s, m.count+1, 0), data); e != api.OK {
		return
	}
	m.chain, m.count, m.expects = bytes.Clone(mac), m.count+1, true
	x.CLA, x.Data = x.CLA-4, data
	return x, api.OK
}

func (m *model) Seal(r api.Response) (api.Response, api.Errno) {
	if m.closed || !m.expects {
		return api.Response{}, api.ErrState
	}
	if r.SW < 0 || r.SW > 65535 {
		return api.Response{}, api.ErrArg
	}
	sealed := r
	if m.s.Level&0x10 != 0 {
		sealed = protectedResponse(m.s, m.chain, m.count, r)
	}
	if len(r.Data) > 65536 || len(sealed.Data) > 65536 {
		return api.Response{}, api.ErrLong
	}
	m.expects = false
	return sealed, api.OK
}

func (m *model) Open(r api.Response) (y api.Response, e api.Errno) {
	if m.closed || !m.expects {
		return y, api.ErrState
	}
	defer func() {
		m.expects = false
		if e != api.OK {
			m.closed, y = true, api.Response{}
		}
	}()
	if r.SW < 0 || r.SW > 65535 {
		return y, api.ErrArg
	}
	if m.s.Level&0x10 == 0 {
		return r, api.OK
	}
	if len(r.Data) < 8 {
		return y, api.ErrShort
	}
	data, mac := r.Data[:len(r.Data)-8], r.Data[len(r.Data)-8:]
	if !bytes.Equal(mac, responseMAC(m.s, m.chain, r.SW, data)) {
		return y, api.ErrWrong
	}
	data, e = m.plain(0x20, initial(m.s, m.count, 0x80), data)
	return api.Response{Data: data, SW: r.SW}, e
}

func (m *model) Level() int {
	if m.closed {
		return 0
	}
	return m.s.Level
}

func (m *model) Count() int { return m.count }

func (m *model) Data() []byte {
	if m.closed {
		return nil
	}
	return m.s.Data
}

// randomCommand returns a command, which is not always valid.
func randomCommand(r *rand.Rand) api.Command {
	x := api.Command{CLA: r.IntN(4) | r.IntN(2)<<7, INS: r.IntN(6) << 4, P1: r.IntN(256), P2: r.IntN(256), Data: counted(r.IntN(30)), Le: r.IntN(257)}
	switch n := r.IntN(20); {
	case n == 0:
		x.CLA = r.IntN(258) - 1
	case n == 1:
		x.INS = r.IntN(256)
	case n == 2:
		x.Data = counted(r.IntN(300))
	case n == 3:
		x.Data, x.Long = counted(r.IntN(600)), true
	case n == 4:
		x.Le, x.Long = r.IntN(1<<17), true
	}
	return x
}

func randomResponse(r *rand.Rand) api.Response {
	x := api.Response{Data: counted(r.IntN(30)), SW: r.IntN(65536)}
	if r.IntN(20) == 0 {
		x.SW = strangeStatus[r.IntN(len(strangeStatus))]
	}
	return x
}

// damaged changes a byte of data now and then.
func damaged(r *rand.Rand, data []byte) []byte {
	data = bytes.Clone(data)
	if r.IntN(12) == 0 && len(data) > 0 {
		data[r.IntN(len(data))] ^= 1 << r.IntN(8)
	}
	return data
}

// channels is the two sides of a channel, and their models.
type channels struct {
	got, want     [2]side
	commands      []api.Command // what was protected so far
	lastResponses []api.Response
	count         map[api.Errno]int
}

func newChannels(level int, count map[api.Errno]int) *channels {
	c := &channels{count: count}
	for i := range 2 {
		c.got[i] = secure.New(sessionWith(level), mac8)
		c.want[i] = &model{s: sessionWith(level), chain: mac8}
	}
	return c
}

// step makes a random call of one side, and of its model; mostly, the sides exchange commands and responses.
func (c *channels) step(t *testing.T, r *rand.Rand) {
	t.Helper()
	switch n := r.IntN(12); {
	case n < 4 || len(c.commands) == 0:
		x := randomCommand(r)
		c.command(t, 0, side.Wrap, x, &c.commands)
	case n < 7:
		x := c.commands[max(0, len(c.commands)-1-r.IntN(12)/11)]
		x.Data = damaged(r, x.Data)
		c.command(t, 1, side.Unwrap, x, nil)
	case n < 10 || len(c.lastResponses) == 0:
		c.response(t, 1, side.Seal, randomResponse(r), &c.lastResponses)
	default:
		x := c.lastResponses[len(c.lastResponses)-1]
		x.Data = damaged(r, x.Data)
		c.response(t, 0, side.Open, x, nil)
	}
	for i := range 2 {
		got, want := c.got[i], c.want[i]
		if got.Level() != want.Level() || got.Count() != want.Count() || !bytes.Equal(got.Data(), want.Data()) {
			t.Fatal("Level, Count and Data are", got.Level(), got.Count(), got.Data(), "and not", want.Level(), want.Count(), want.Data())
		}
	}
}

// command makes a call with a command; a result is kept in a list.
func (c *channels) command(t *testing.T, i int, f func(side, api.Command) (api.Command, api.Errno), x api.Command, keep *[]api.Command) {
	t.Helper()
	want, wantE := f(c.want[i], x)
	got, e := f(c.got[i], x)
	if !apdu.Same(got, want) || e != wantE {
		t.Fatal("a call with", x, "returns", got, e, "and not", want, wantE)
	}
	if e == api.OK && keep != nil {
		*keep = append(*keep, got)
	}
	c.count[e]++
}

// response makes a call with a response.
func (c *channels) response(t *testing.T, i int, f func(side, api.Response) (api.Response, api.Errno), x api.Response, keep *[]api.Response) {
	t.Helper()
	want, wantE := f(c.want[i], x)
	got, e := f(c.got[i], x)
	if !sameResponse(got, want) || e != wantE {
		t.Fatal("a call with", x, "returns", got, e, "and not", want, wantE)
	}
	if e == api.OK && keep != nil {
		*keep = append(*keep, got)
	}
	c.count[e]++
}

// P24.1 to P24.5

func TestModel(t *testing.T) {
	count := map[api.Errno]int{}
	for seed := range uint64(600) {
		r := rand.New(rand.NewPCG(seed, 241))
		c := newChannels(allLevels[seed%6], count)
		for range 40 {
			c.step(t, r)
		}
	}
	for _, e := range []api.Errno{api.OK, api.ErrArg, api.ErrRange, api.ErrForm, api.ErrLong, api.ErrState, api.ErrWrong} {
		if count[e] < 20 {
			t.Error("the result", e, "occurred", count[e], "times")
		}
	}
}

// TestOneSide makes all calls of the same side, in any order.
func TestOneSide(t *testing.T) {
	count := map[api.Errno]int{}
	for seed := range uint64(300) {
		r := rand.New(rand.NewPCG(seed, 242))
		c := newChannels(allLevels[seed%6], count)
		for range 30 {
			switch n := r.IntN(20); {
			case n < 8:
				c.command(t, 0, side.Wrap, randomCommand(r), nil)
			case n < 9:
				c.command(t, 0, side.Unwrap, randomCommand(r), nil)
			case n < 18:
				c.response(t, 0, side.Seal, randomResponse(r), nil)
			default:
				c.response(t, 0, side.Open, randomResponse(r), nil)
			}
		}
	}
	for _, e := range []api.Errno{api.OK, api.ErrState, api.ErrShort, api.ErrForm} {
		if count[e] < 20 {
			t.Error("the result", e, "occurred", count[e], "times")
		}
	}
}
