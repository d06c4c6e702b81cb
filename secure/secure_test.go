package secure_test

import (
	"bytes"
	"encoding/hex"
	"math"
	"math/rand/v2"
	"slices"
	"testing"

	"smartcard/apdu"
	"smartcard/api"
	"smartcard/secure"
)

var (
	mac8 = raw("a0a1a2a3a4a5a6a7")

	allLevels     = []int{0, 1, 3, 0x11, 0x13, 0x33}
	macLevels     = allLevels[1:]
	rmacLevels    = allLevels[3:]
	invalidLevels = []int{-1, 2, 4, 5, 0x10, 0x12, 0x20, 0x21, 0x23, 0x30, 0x31, 0x32, 0x34, 0x37, 0x40, 0x80, 0x81, 0xff, 0x100, 0x101, 0x133, 1 << 32, 1<<32 + 1, math.MinInt, math.MinInt + 1, math.MaxInt}
)

// raw returns the bytes that a hexadecimal text denotes.
func raw(text string) []byte {
	b, err := hex.DecodeString(text)
	if err != nil {
		panic(text)
	}
	return b
}

// counted returns n bytes, of which neighbours differ.
func counted(n int) []byte {
	b := make([]byte, n)
	for i := range b {
		b[i] = byte(i*7 + 3)
	}
	return b
}

// fenced returns a copy of bytes with others behind them, and a function that reports whether all are as they were.
func fenced(b []byte) ([]byte, func() bool) {
	all := slices.Concat(b, raw("eeeeeeeeeeeeeeee"))
	before := bytes.Clone(all)
	return all[:len(b)], func() bool { return bytes.Equal(all, before) }
}

// sessionWith returns a session with a level, whose keys differ.
func sessionWith(level int) api.Session {
	return api.Session{Enc: raw("000102030405060708090a0b0c0d0e0f"), Mac: raw("101112131415161718191a1b1c1d1e1f"), RMac: raw("202122232425262728292a2b2c2d2e2f"), Data: raw("303132333435363738393a3b3c3d3e3f"), Level: level}
}

// newSide returns a new side with a level.
func newSide(t *testing.T, level int) *secure.Channel {
	t.Helper()
	c := secure.New(sessionWith(level), mac8)
	if c == nil {
		t.Fatal("New returns nil")
	}
	return c
}

// newSides returns the terminal's and the card's side of a channel.
func newSides(t *testing.T, level int) (terminal, card *secure.Channel) {
	t.Helper()
	return newSide(t, level), newSide(t, level)
}

func expect(t *testing.T, what string, got, want api.Errno) {
	t.Helper()
	if got != want {
		t.Fatal(what, "returns", got, "and not", want)
	}
}

func sameResponse(a, b api.Response) bool { return bytes.Equal(a.Data, b.Data) && a.SW == b.SW }

// wrap expects that Wrap succeeds.
func wrap(t *testing.T, c *secure.Channel, x api.Command) api.Command {
	t.Helper()
	y, e := c.Wrap(x)
	expect(t, "Wrap", e, api.OK)
	return y
}

// unwrap expects that Unwrap succeeds.
func unwrap(t *testing.T, c *secure.Channel, x api.Command) api.Command {
	t.Helper()
	y, e := c.Unwrap(x)
	expect(t, "Unwrap", e, api.OK)
	return y
}

// seal expects that Seal succeeds.
func seal(t *testing.T, c *secure.Channel, r api.Response) api.Response {
	t.Helper()
	y, e := c.Seal(r)
	expect(t, "Seal", e, api.OK)
	return y
}

// failWrap expects an error of Wrap.
func failWrap(t *testing.T, c *secure.Channel, x api.Command, want api.Errno) {
	t.Helper()
	if y, e := c.Wrap(x); !apdu.Same(y, api.Command{}) || e != want {
		t.Fatal("Wrap returns", y, e, "and not", want)
	}
}

// failUnwrap expects an error of Unwrap.
func failUnwrap(t *testing.T, c *secure.Channel, x api.Command, want api.Errno) {
	t.Helper()
	if y, e := c.Unwrap(x); !apdu.Same(y, api.Command{}) || e != want {
		t.Fatal("Unwrap returns", y, e, "and not", want)
	}
}

// failSeal expects an error of Seal.
func failSeal(t *testing.T, c *secure.Channel, r api.Response, want api.Errno) {
	t.Helper()
	if y, e := c.Seal(r); !sameResponse(y, api.Response{}) || e != want {
		t.Fatal("Seal returns", y, e, "and not", want)
	}
}

// failOpen expects an error of Open.
func failOpen(t *testing.T, c *secure.Channel, r api.Response, want api.Errno) {
	t.Helper()
	if y, e := c.Open(r); !sameResponse(y, api.Response{}) || e != want {
		t.Fatal("Open returns", y, e, "and not", want)
	}
}

// expectClosed expects that a side is closed, with a counter.
func expectClosed(t *testing.T, c *secure.Channel, count int) {
	t.Helper()
	for _, x := range []api.Command{{INS: 0xb0, Le: 4}, {CLA: -1}, {CLA: 4, INS: 0xb0, Data: make([]byte, 8)}} {
		failWrap(t, c, x, api.ErrState)
		failUnwrap(t, c, x, api.ErrState)
	}
	for _, r := range []api.Response{{SW: 0x9000}, {SW: -1}, {Data: make([]byte, 8), SW: 0x9000}} {
		failSeal(t, c, r, api.ErrState)
		failOpen(t, c, r, api.ErrState)
	}
	if c.Level() != 0 || c.Count() != count || len(c.Data()) > 0 {
		t.Fatal("the side is not closed:", c.Level(), c.Count(), c.Data())
	}
}

// expectFresh expects that a side has not changed since New: nothing was counted, and no response is expected.
func expectFresh(t *testing.T, c *secure.Channel, level int) {
	t.Helper()
	failSeal(t, c, api.Response{SW: 0x9000}, api.ErrState)
	failOpen(t, c, api.Response{SW: 0x9000}, api.ErrState)
	if c.Level() != level || c.Count() != 0 || !bytes.Equal(c.Data(), sessionWith(level).Data) {
		t.Fatal("the side has changed:", c.Level(), c.Count(), c.Data())
	}
	y, _ := protectedCommand(sessionWith(level), mac8, 1, commands()[0])
	if got := wrap(t, c, commands()[0]); !apdu.Same(got, y) {
		t.Fatal("Wrap returns", got, "and not", y)
	}
}

// commands returns valid commands without protection, of all cases.
func commands() []api.Command {
	l := []api.Command{{INS: 0xb0, Le: 4}, {CLA: 0x80, INS: 0xe2, P1: 0x12, P2: 0x34, Data: raw("0102030405")}, {CLA: 3, INS: 0xda, P1: 0xff, P2: 1, Data: raw("c0c1c2c3c4c5c6c7"), Le: 256}, {}, {CLA: 0x83, INS: 0xff, P1: 0xff, P2: 0xff}, {INS: 0xb0, Le: 65536, Long: true}}
	for _, n := range []int{1, 7, 8, 9, 15, 16, 17, 231, 232, 239, 240, 246, 247, 248, 249, 254, 255} {
		l = append(l, api.Command{CLA: n & 0x83, INS: 0xd6, P1: n, P2: 1, Data: counted(n), Le: n})
	}
	for _, n := range []int{1, 8, 255, 256, 1000, 4096} {
		l = append(l, api.Command{CLA: n & 0x83, INS: 0xd6, P2: 2, Data: counted(n), Le: 65536 - n, Long: true}, api.Command{CLA: n & 0x83, INS: 0xd6, P2: 2, Data: counted(n), Long: true})
	}
	return l
}

// responses returns responses without protection.
func responses() []api.Response {
	l := []api.Response{{Data: raw("01020304"), SW: 0x9000}, {SW: 0x6a82}, {Data: raw("5051525354555657"), SW: 0x6282}, {}, {SW: 0xffff}, {Data: counted(3)}}
	for _, n := range []int{1, 7, 8, 9, 15, 16, 17, 255, 256, 257, 1000, 4096} {
		l = append(l, api.Response{Data: counted(n), SW: n * 15})
	}
	return l
}

// invalidCommands returns commands with the error of Check.
func invalidCommands() map[api.Errno][]api.Command {
	return map[api.Errno][]api.Command{
		api.ErrRange: {{CLA: -1}, {CLA: 256}, {INS: 256}, {P1: -1}, {P2: 256}, {P1: math.MaxInt}, {Le: -1}, {Le: 257}, {Le: 65537, Long: true}},
		api.ErrArg:   {{CLA: 255}, {INS: 0x60}, {INS: 0x9f}},
		api.ErrLong:  {{Data: make([]byte, 256)}, {Data: make([]byte, 65536), Long: true}},
		api.ErrForm:  {{Long: true}},
	}
}

// Examples

func TestExampleOfLevel0(t *testing.T) {
	terminal, card := newSides(t, 0)
	for i, x := range commands() {
		if y := wrap(t, terminal, x); !apdu.Same(y, x) {
			t.Fatal("Wrap returns", y)
		}
		if y := unwrap(t, card, x); !apdu.Same(y, x) {
			t.Fatal("Unwrap returns", y)
		}
		r := responses()[i%len(responses())]
		if y := seal(t, card, r); !sameResponse(y, r) {
			t.Fatal("Seal returns", y)
		}
		if y, e := terminal.Open(r); !sameResponse(y, r) || e != api.OK {
			t.Fatal("Open returns", y, e)
		}
		if terminal.Count() != i+1 || card.Count() != i+1 {
			t.Fatal("Count is", terminal.Count(), card.Count())
		}
	}
}

func TestExampleOfLevelMac(t *testing.T) {
	y := wrap(t, newSide(t, api.LevelMac), api.Command{INS: 0xb0, Le: 4})
	if len(y.Data) != 8 {
		t.Error("the data are", y.Data)
	}
	y.Data = nil
	if !apdu.Same(y, api.Command{CLA: 4, INS: 0xb0, Le: 4}) {
		t.Error("Wrap returns", y)
	}
}

// vector is the protected data of the first three commands and responses, as a separate implementation has computed them.
type vector struct {
	level               int
	commands, responses [3]string
}

func vectors() []vector {
	return []vector{
		{0x1, [3]string{"410baebb5f44119a", "01020304055518dd9e2a8f6d69", "c0c1c2c3c4c5c6c7ecd02319e8f422ff"}, [3]string{"01020304", "", "5051525354555657"}},
		{0x3, [3]string{"410baebb5f44119a", "a2e61543093a4957af367cd1a2fef550", "c33260e72b5998ba0fcb81b1b4bf1017a0d368c53dc5362b"}, [3]string{"01020304", "", "5051525354555657"}},
		{0x11, [3]string{"410baebb5f44119a", "01020304055518dd9e2a8f6d69", "c0c1c2c3c4c5c6c7ecd02319e8f422ff"}, [3]string{"0102030454962c81abf9ddf2", "a2f14d76b50e5e89", "5051525354555657801915a1f84f7b11"}},
		{0x13, [3]string{"410baebb5f44119a", "a2e61543093a4957af367cd1a2fef550", "c33260e72b5998ba0fcb81b1b4bf1017a0d368c53dc5362b"}, [3]string{"0102030454962c81abf9ddf2", "b3a77360de6b10a6", "5051525354555657671a709029b49e3c"}},
		{0x33, [3]string{"410baebb5f44119a", "a2e61543093a4957af367cd1a2fef550", "c33260e72b5998ba0fcb81b1b4bf1017a0d368c53dc5362b"}, [3]string{"b4efffad273c0a8f40c19e5998ae892b", "b3a77360de6b10a6", "e8687e59f1bcce4164b96130f7485f2b7c64689f3f324507"}},
	}
}

func TestVectors(t *testing.T) {
	for _, v := range vectors() {
		terminal, card := newSides(t, v.level)
		for i := range 3 {
			x, r := commands()[i], responses()[i]
			protected := api.Command{CLA: x.CLA | 4, INS: x.INS, P1: x.P1, P2: x.P2, Data: raw(v.commands[i]), Le: x.Le}
			if y := wrap(t, terminal, x); !apdu.Same(y, protected) {
				t.Errorf("Wrap with the level %x returns %v", v.level, y)
			}
			if y := unwrap(t, card, protected); !apdu.Same(y, x) {
				t.Errorf("Unwrap with the level %x returns %v", v.level, y)
			}
			sealed := api.Response{Data: raw(v.responses[i]), SW: r.SW}
			if y := seal(t, card, r); !sameResponse(y, sealed) {
				t.Errorf("Seal with the level %x returns %x", v.level, y)
			}
			if y, e := terminal.Open(sealed); e != api.OK || !sameResponse(y, r) {
				t.Errorf("Open with the level %x returns %x %d", v.level, y, e)
			}
		}
	}
}

// Objects

func TestNoChannel(t *testing.T) {
	for _, c := range []*secure.Channel{nil, {}} {
		for _, x := range []api.Command{{INS: 0xb0}, {CLA: -1}} {
			failWrap(t, c, x, api.ErrNil)
			failUnwrap(t, c, x, api.ErrNil)
		}
		for _, r := range []api.Response{{SW: 0x9000}, {SW: -1}} {
			failSeal(t, c, r, api.ErrNil)
			failOpen(t, c, r, api.ErrNil)
		}
		if c.Level() != 0 || c.Count() != 0 || len(c.Data()) > 0 {
			t.Error("a channel that is none has", c.Level(), c.Count(), c.Data())
		}
	}
}

func TestNew(t *testing.T) {
	for _, level := range allLevels {
		expectFresh(t, newSide(t, level), level)
	}
	for _, level := range invalidLevels {
		if secure.New(sessionWith(level), mac8) != nil {
			t.Error("New accepts the level", level)
		}
	}
	for n := range 40 {
		for i := range 4 {
			s := sessionWith(1)
			*[]*[]byte{&s.Enc, &s.Mac, &s.RMac, &s.Data}[i] = make([]byte, n)
			if n != 16 && secure.New(s, mac8) != nil {
				t.Error("New accepts a key of", n, "bytes")
			}
		}
		if n != 8 && secure.New(sessionWith(1), make([]byte, n)) != nil {
			t.Error("New accepts a MAC of", n, "bytes")
		}
	}
	if secure.New(api.Session{}, mac8) != nil || secure.New(sessionWith(0), nil) != nil {
		t.Error("New accepts nothing")
	}
}

// P24.1

func TestWrap(t *testing.T) {
	for _, level := range macLevels {
		terminal, chain := newSide(t, level), mac8
		for i, x := range commands() {
			want, mac := protectedCommand(sessionWith(level), chain, i+1, x)
			if got := wrap(t, terminal, x); !apdu.Same(got, want) {
				t.Fatalf("Wrap returns %v and not %v", got, want)
			}
			if terminal.Count() != i+1 {
				t.Fatal("Count is", terminal.Count())
			}
			chain = mac
		}
	}
}

// TestLongCommands is about the number of bytes from which on a protected command is long.
func TestLongCommands(t *testing.T) {
	for _, level := range macLevels {
		for n := range 256 {
			y := wrap(t, newSide(t, level), api.Command{INS: 0xd6, Data: counted(n), Le: 256})
			size := n + 8
			if level&2 != 0 && n > 0 {
				size = n/8*8 + 16
			}
			if len(y.Data) != size || y.Long != (size > 255) || y.Le != 256 {
				t.Error("the protected command has", len(y.Data), "bytes, Long is", y.Long)
			}
		}
	}
}

func TestErrorsOfWrap(t *testing.T) {
	for _, level := range allLevels {
		c := newSide(t, level)
		for want, l := range invalidCommands() {
			for _, x := range l {
				failWrap(t, c, x, want)
			}
		}
		for _, cla := range []int{0x08, 0x20, 0x40, 0x48, 0xe0, 0xc0, 0x90, 0x10, 0x04, 0x14, 0x84, 0x94, 0x07} {
			failWrap(t, c, api.Command{CLA: cla, INS: 0xb0}, api.ErrForm)
			failWrap(t, c, api.Command{CLA: cla, INS: 0xb0, Data: make([]byte, 65535), Long: true}, api.ErrForm) // before ErrLong
			failWrap(t, c, api.Command{CLA: cla, INS: 0x60}, api.ErrArg)
		}
		expectFresh(t, c, level)
	}
}

func TestLongestCommands(t *testing.T) {
	for level, most := range map[int]int{0: 65535, 1: 65527, 0x11: 65527, 3: 65519, 0x13: 65519, 0x33: 65519} {
		terminal, card := newSides(t, level)
		for n := most + 1; n <= 65535; n++ {
			failWrap(t, terminal, api.Command{INS: 0xd6, Data: make([]byte, n), Long: true}, api.ErrLong)
		}
		x := api.Command{INS: 0xd6, Data: counted(most), Le: 65536, Long: true}
		if y := unwrap(t, card, wrap(t, terminal, x)); !apdu.Same(y, x) || terminal.Count() != 1 {
			t.Error("Unwrap returns another command")
		}
	}
}

// TestErrorsChangeNothing makes calls that fail between others, while a response is expected.
func TestErrorsChangeNothing(t *testing.T) {
	for _, level := range allLevels {
		terminal, card := newSides(t, level)
		unwrap(t, card, wrap(t, terminal, commands()[1]))
		failWrap(t, terminal, api.Command{CLA: 0x10}, api.ErrForm)
		failWrap(t, terminal, api.Command{CLA: -1}, api.ErrRange)
		failSeal(t, card, api.Response{SW: -1}, api.ErrArg)
		failSeal(t, card, api.Response{Data: make([]byte, 65537)}, api.ErrLong)
		r := responses()[0]
		if y, e := terminal.Open(seal(t, card, r)); e != api.OK || !sameResponse(y, r) {
			t.Fatal("Open returns", y, e)
		}
		failWrap(t, terminal, api.Command{CLA: 0x10}, api.ErrForm)
		failOpen(t, terminal, r, api.ErrState)
		if y := unwrap(t, card, wrap(t, terminal, commands()[2])); !apdu.Same(y, commands()[2]) || terminal.Count() != 2 {
			t.Fatal("Unwrap returns", y)
		}
	}
}

// P24.2

func TestUnwrap(t *testing.T) {
	for _, level := range macLevels {
		card, chain := newSide(t, level), mac8
		for i, x := range commands() {
			y, mac := protectedCommand(sessionWith(level), chain, i+1, x)
			x.Long = y.Long
			if got := unwrap(t, card, y); !apdu.Same(got, x) {
				t.Fatalf("Unwrap returns %v and not %v", got, x)
			}
			if card.Count() != i+1 {
				t.Fatal("Count is", card.Count())
			}
			chain = mac
		}
	}
}

// closes expects an error of Unwrap, for the command after the first one, and that the side is then closed.
func closes(t *testing.T, level int, x api.Command, want api.Errno) {
	t.Helper()
	terminal, card := newSides(t, level)
	unwrap(t, card, wrap(t, terminal, commands()[0]))
	failUnwrap(t, card, x, want)
	expectClosed(t, card, 1)
}

func TestErrorsOfUnwrap(t *testing.T) {
	for _, level := range allLevels {
		for want, l := range invalidCommands() {
			for _, x := range l {
				closes(t, level, x, want)
			}
		}
		for _, cla := range []int{0x08, 0x20, 0x40, 0x48, 0xe0, 0xc0, 0x90, 0x10, 0x14, 0x94} {
			closes(t, level, api.Command{CLA: cla, INS: 0xb0}, api.ErrForm)
			closes(t, level, api.Command{CLA: cla | 4, INS: 0xb0, Data: make([]byte, 8)}, api.ErrForm)
			closes(t, level, api.Command{CLA: cla, INS: 0x60}, api.ErrArg)
		}
		for _, cla := range []int{4, 7, 0x84} {
			want := api.ErrShort
			if level == 0 {
				want = api.ErrForm
			}
			for n := range 8 {
				closes(t, level, api.Command{CLA: cla, INS: 0xb0, Data: make([]byte, n)}, want)
			}
			if level > 0 {
				closes(t, level, api.Command{CLA: cla, INS: 0xb0, Data: make([]byte, 8)}, api.ErrWrong)
				closes(t, level, api.Command{CLA: cla - 4, INS: 0xb0, Data: make([]byte, 8)}, api.ErrShort)
				closes(t, level, api.Command{CLA: cla - 4, INS: 0xb0, Le: 4}, api.ErrShort)
			}
		}
	}
}

// TestUndecryptable is about protected commands whose MAC is right, but whose data are no encrypted ones: ErrForm comes after ErrWrong.
func TestUndecryptable(t *testing.T) {
	for _, level := range []int{3, 0x13, 0x33} {
		for _, plain := range [][]byte{make([]byte, 8), make([]byte, 16), counted(8), raw("8000000000000001")} { // not padded
			secret := encrypted(sessionWith(level), 1, 0, plain)
			undecryptable(t, level, secret)
			undecryptable(t, level, secret[:5])
			undecryptable(t, level, append(secret, 1))
		}
	}
}

// undecryptable expects ErrForm for data that are followed by the right MAC, and ErrWrong for a wrong one.
func undecryptable(t *testing.T, level int, data []byte) {
	t.Helper()
	x := api.Command{CLA: 4, INS: 0xd6, P1: 1, P2: 2, Le: 3}
	x.Data = slices.Concat(data, commandMAC(sessionWith(level), mac8, x, data))
	card := newSide(t, level)
	failUnwrap(t, card, x, api.ErrForm)
	expectClosed(t, card, 0)
	x.Data[len(x.Data)-1] ^= 1
	card = newSide(t, level)
	failUnwrap(t, card, x, api.ErrWrong)
	expectClosed(t, card, 0)
}

// TestPaddingOfNothing is about encrypted data that are only padding, which Wrap never makes.
func TestPaddingOfNothing(t *testing.T) {
	x := api.Command{CLA: 4, INS: 0xd6}
	data := encrypted(sessionWith(3), 1, 0, raw("8000000000000000"))
	x.Data = slices.Concat(data, commandMAC(sessionWith(3), mac8, x, data))
	if y := unwrap(t, newSide(t, 3), x); !apdu.Same(y, api.Command{INS: 0xd6}) {
		t.Error("Unwrap returns", y)
	}
}

// P24.3

func TestSeal(t *testing.T) {
	for _, level := range allLevels {
		terminal, card := newSides(t, level)
		for i, r := range responses() {
			y := wrap(t, terminal, commands()[i%len(commands())])
			unwrap(t, card, y)
			want := r
			if level >= 0x11 {
				want = protectedResponse(sessionWith(level), y.Data[len(y.Data)-8:], i+1, r)
			}
			if got := seal(t, card, r); !sameResponse(got, want) {
				t.Fatalf("Seal returns %x and not %x", got, want)
			}
			failSeal(t, card, r, api.ErrState) // no second response
			failSeal(t, card, api.Response{SW: -1}, api.ErrState)
		}
	}
}

var strangeStatus = []int{-1, 65536, 65536 + 0x9000, 1 << 32, 1<<32 + 0x9000, math.MaxInt, math.MinInt}

func TestErrorsOfSeal(t *testing.T) {
	for level, most := range map[int]int{0: 65536, 1: 65536, 3: 65536, 0x11: 65528, 0x13: 65528, 0x33: 65527} {
		terminal, card := newSides(t, level)
		for _, r := range responses() {
			failSeal(t, card, r, api.ErrState)
		}
		failSeal(t, card, api.Response{SW: -1, Data: make([]byte, 65537)}, api.ErrState)
		y := wrap(t, terminal, commands()[0])
		unwrap(t, card, y)
		for _, sw := range strangeStatus {
			failSeal(t, card, api.Response{SW: sw}, api.ErrArg)
			failSeal(t, card, api.Response{SW: sw, Data: make([]byte, 65537)}, api.ErrArg)
		}
		for n := most + 1; n < 65540; n++ {
			failSeal(t, card, api.Response{SW: 0x9000, Data: make([]byte, n)}, api.ErrLong)
		}
		r := api.Response{SW: 0xffff, Data: counted(most)}
		sealed := seal(t, card, r)
		if len(sealed.Data) > 65536 {
			t.Error("Seal returns", len(sealed.Data), "bytes")
		}
		if got, e := terminal.Open(sealed); e != api.OK || !sameResponse(got, r) {
			t.Error("Open returns", got.SW, e)
		}
		if card.Count() != 1 || card.Level() != level {
			t.Error("an error has changed something")
		}
	}
}

// P24.4

func TestOpen(t *testing.T) {
	for _, level := range allLevels {
		terminal := newSide(t, level)
		for i, r := range responses() {
			y := wrap(t, terminal, commands()[i%len(commands())])
			sealed := r
			if level >= 0x11 {
				sealed = protectedResponse(sessionWith(level), y.Data[len(y.Data)-8:], i+1, r)
			}
			if got, e := terminal.Open(sealed); e != api.OK || !sameResponse(got, r) {
				t.Fatalf("Open returns %x %d and not %x", got, e, r)
			}
			failOpen(t, terminal, sealed, api.ErrState) // no second response, but the side is not closed
			failOpen(t, terminal, api.Response{SW: -1}, api.ErrState)
			if terminal.Level() != level || terminal.Count() != i+1 {
				t.Fatal("an error has changed something")
			}
		}
	}
}

// closesTerminal expects an error of Open, for the response to a command, and that the side is then closed.
func closesTerminal(t *testing.T, level int, r api.Response, want api.Errno) {
	t.Helper()
	terminal := newSide(t, level)
	wrap(t, terminal, commands()[0])
	failOpen(t, terminal, r, want)
	expectClosed(t, terminal, 1)
}

func TestErrorsOfOpen(t *testing.T) {
	for _, level := range allLevels {
		terminal := newSide(t, level)
		for _, r := range responses() {
			failOpen(t, terminal, r, api.ErrState)
		}
		expectFresh(t, terminal, level)
		for _, sw := range strangeStatus {
			closesTerminal(t, level, api.Response{SW: sw}, api.ErrArg)
			closesTerminal(t, level, api.Response{SW: sw, Data: make([]byte, 70000)}, api.ErrArg)
		}
	}
	for _, level := range rmacLevels {
		for n := range 8 {
			closesTerminal(t, level, api.Response{SW: 0x9000, Data: make([]byte, n)}, api.ErrShort)
		}
		for _, n := range []int{8, 9, 16, 65536, 70000} {
			closesTerminal(t, level, api.Response{SW: 0x9000, Data: make([]byte, n)}, api.ErrWrong)
		}
	}
}

// TestUnprotectedResponses is about levels without MACs of responses, which are not examined, however long they are.
func TestUnprotectedResponses(t *testing.T) {
	for _, level := range []int{0, 1, 3} {
		terminal := newSide(t, level)
		wrap(t, terminal, commands()[0])
		r := api.Response{Data: counted(70000), SW: 0}
		if got, e := terminal.Open(r); e != api.OK || !sameResponse(got, r) {
			t.Error("Open returns", len(got.Data), got.SW, e)
		}
	}
}

func TestUndecryptableResponses(t *testing.T) {
	s := sessionWith(0x33)
	_, chain := protectedCommand(s, mac8, 1, commands()[0])
	for _, plain := range [][]byte{make([]byte, 8), make([]byte, 16), counted(8), raw("8000000000000001")} {
		secret := encrypted(s, 1, 0x80, plain)
		for _, data := range [][]byte{secret, secret[:5], append(bytes.Clone(secret), 1)} {
			r := api.Response{SW: 0x9000, Data: slices.Concat(data, responseMAC(s, chain, 0x9000, data))}
			closesTerminal(t, 0x33, r, api.ErrForm)
			r.Data[len(r.Data)-1] ^= 1
			closesTerminal(t, 0x33, r, api.ErrWrong)
		}
	}
}

// TestWrongResponses inverts each bit of a protected response, and tries that of another command.
func TestWrongResponses(t *testing.T) {
	for _, level := range rmacLevels {
		terminal, card := newSides(t, level)
		unwrap(t, card, wrap(t, terminal, commands()[0]))
		sealed := seal(t, card, responses()[0])
		for bit := range len(sealed.Data) * 8 {
			r := api.Response{SW: sealed.SW, Data: bytes.Clone(sealed.Data)}
			r.Data[bit/8] ^= 0x80 >> (bit % 8)
			closesTerminal(t, level, r, api.ErrWrong)
		}
		for bit := range 16 {
			closesTerminal(t, level, api.Response{SW: sealed.SW ^ 1<<bit, Data: sealed.Data}, api.ErrWrong)
		}
		closesTerminal(t, level, api.Response{SW: sealed.SW, Data: sealed.Data[1:]}, api.ErrWrong)
		if _, e := terminal.Open(sealed); e != api.OK {
			t.Error("Open returns", e)
		}
		wrap(t, terminal, commands()[1])
		failOpen(t, terminal, sealed, api.ErrWrong)
		expectClosed(t, terminal, 2)
	}
}

// TestResponseToLastCommand is about two commands without a response to the first one.
func TestResponseToLastCommand(t *testing.T) {
	for _, level := range allLevels {
		terminal, card := newSides(t, level)
		unwrap(t, card, wrap(t, terminal, commands()[1]))
		early := seal(t, card, responses()[0])
		unwrap(t, card, wrap(t, terminal, commands()[2]))
		late := seal(t, card, responses()[0])
		if level >= 0x11 {
			if bytes.Equal(early.Data, late.Data) {
				t.Fatal("two responses are equal")
			}
			clone, _ := newSides(t, level)
			wrap(t, clone, commands()[1])
			wrap(t, clone, commands()[2])
			failOpen(t, clone, early, api.ErrWrong)
		}
		if got, e := terminal.Open(late); e != api.OK || !sameResponse(got, responses()[0]) {
			t.Fatal("Open returns", got, e)
		}
	}
}

// P24.5

func TestLevelCountAndData(t *testing.T) {
	for _, level := range allLevels {
		terminal, card := newSides(t, level)
		for count := range 300 { // so that the counter has more than one byte
			for _, c := range []*secure.Channel{terminal, card} {
				if c.Level() != level || c.Count() != count || !bytes.Equal(c.Data(), sessionWith(level).Data) {
					t.Fatal("Level, Count and Data are", c.Level(), c.Count(), c.Data())
				}
				clear(c.Data())
			}
			x := commands()[count%len(commands())]
			y := wrap(t, terminal, x)
			x.Long = y.Long
			if got := unwrap(t, card, y); !apdu.Same(got, x) {
				t.Fatal("Unwrap returns", got)
			}
		}
		failUnwrap(t, card, api.Command{CLA: 0x10}, api.ErrForm)
		expectClosed(t, card, 300)
		failOpen(t, terminal, api.Response{SW: -1}, api.ErrArg)
		expectClosed(t, terminal, 300)
	}
}

// P24.6

func TestAgreement(t *testing.T) {
	for _, level := range allLevels {
		terminal, card := newSides(t, level)
		r := rand.New(rand.NewPCG(uint64(level), 24))
		for range 300 {
			x := commands()[r.IntN(len(commands()))]
			y := wrap(t, terminal, x)
			if e := apdu.Check(y); e != api.OK {
				t.Fatal("the protected command is not valid:", e)
			}
			got := unwrap(t, card, y)
			if x.Long = x.Long || got.Long; !apdu.Same(got, x) {
				t.Fatal("Unwrap returns", got, "and not", x)
			}
			if r.IntN(4) == 0 {
				continue // without a response
			}
			back := responses()[r.IntN(len(responses()))]
			if got, e := terminal.Open(seal(t, card, back)); e != api.OK || !sameResponse(got, back) {
				t.Fatal("Open returns", got, e, "and not", back)
			}
		}
	}
}

// P24.7 and P7

// altered returns commands that differ from a command, in everything but Long too.
func altered(x api.Command) []api.Command {
	var l []api.Command
	add := func(change func(y *api.Command)) {
		y := x
		y.Data = bytes.Clone(x.Data)
		change(&y)
		l = append(l, y)
	}
	for bit := range 8 {
		add(func(y *api.Command) { y.CLA ^= 1 << bit })
		add(func(y *api.Command) { y.INS ^= 1 << bit })
		add(func(y *api.Command) { y.P1 ^= 1 << bit })
		add(func(y *api.Command) { y.P2 ^= 1 << bit })
	}
	for bit := range 17 {
		add(func(y *api.Command) { y.Le ^= 1 << bit })
	}
	for bit := range len(x.Data) * 8 {
		add(func(y *api.Command) { y.Data[bit/8] ^= 0x80 >> (bit % 8) })
	}
	for i := range x.Data {
		add(func(y *api.Command) { y.Data = slices.Delete(y.Data, i, i+1) })
		add(func(y *api.Command) { y.Data = slices.Insert(y.Data, i, 0) })
	}
	add(func(y *api.Command) { y.Data = nil })
	add(func(y *api.Command) { y.Data = append(y.Data, 0) })
	return l
}

func TestAlteredCommands(t *testing.T) {
	for _, level := range macLevels {
		for _, x := range commands()[:4] {
			y := wrap(t, newSide(t, level), x)
			for _, z := range altered(y) {
				card := newSide(t, level)
				got, e := card.Unwrap(z)
				if e == api.OK || !apdu.Same(got, api.Command{}) {
					t.Fatal("Unwrap of", z, "returns", got, e)
				}
				expectClosed(t, card, 0)
				failUnwrap(t, card, y, api.ErrState)
			}
		}
	}
}

// TestAlteredLong is about Long, which no MAC protects.
func TestAlteredLong(t *testing.T) {
	for _, level := range macLevels {
		for _, x := range commands() {
			y := wrap(t, newSide(t, level), x)
			y.Long = !y.Long
			if apdu.Check(y) != api.OK {
				continue
			}
			x.Long = y.Long
			if got := unwrap(t, newSide(t, level), y); !apdu.Same(got, x) {
				t.Fatal("Unwrap returns", got, "and not", x)
			}
		}
	}
}

// TestOrder tries commands that were accepted already, that come too early, and those of other sessions.
func TestOrder(t *testing.T) {
	for _, level := range macLevels {
		for _, order := range [][]int{{0, 0}, {1}, {0, 2}, {0, 1, 1}, {0, 1, 0}, {0, 1, 2, 0}, {3}, {0, 1, 3, 2}} {
			terminal, card := newSides(t, level)
			var l []api.Command
			for range 4 {
				l = append(l, wrap(t, terminal, commands()[1])) // the same command each time
			}
			for i, n := range order {
				switch {
				case n == i:
					unwrap(t, card, l[n])
				case i == 0 || order[i-1] == i-1:
					failUnwrap(t, card, l[n], api.ErrWrong)
					expectClosed(t, card, i)
				default:
					failUnwrap(t, card, l[n], api.ErrState)
				}
			}
		}
	}
}

func TestOtherSessions(t *testing.T) {
	for _, level := range macLevels {
		x := commands()[1]
		other := sessionWith(level)
		other.Mac = raw("101112131415161718191a1b1c1d1e1e")
		for _, terminal := range []*secure.Channel{secure.New(other, mac8), secure.New(sessionWith(level), raw("a0a1a2a3a4a5a6a6"))} {
			card := newSide(t, level)
			failUnwrap(t, card, wrap(t, terminal, x), api.ErrWrong)
			expectClosed(t, card, 0)
		}
		card := newSide(t, level)
		failUnwrap(t, card, x, api.ErrShort)
		expectClosed(t, card, 0)
	}
}

// Arguments and results

// TestMemoryOfNew changes what New was given.
func TestMemoryOfNew(t *testing.T) {
	s := sessionWith(0x33)
	mac, unchanged := fenced(mac8)
	c := secure.New(s, mac)
	if !unchanged() {
		t.Error("an argument was changed")
	}
	for _, b := range [][]byte{s.Enc, s.Mac, s.RMac, s.Data, mac} {
		clear(b)
	}
	unwrap(t, c, wrap(t, newSide(t, 0x33), commands()[1]))
	want := protectedResponse(sessionWith(0x33), lastMAC(), 1, responses()[0])
	if got := seal(t, c, responses()[0]); !sameResponse(got, want) {
		t.Error("Seal returns", got)
	}
	if !bytes.Equal(c.Data(), sessionWith(0x33).Data) {
		t.Error("Data is", c.Data())
	}
}

// lastMAC returns the MAC of the first command of TestMemoryOfNew.
func lastMAC() []byte {
	_, mac := protectedCommand(sessionWith(0x33), mac8, 1, commands()[1])
	return mac
}

// pass makes a call with a command or a response, whose data are cleared afterwards.
func pass[T any](t *testing.T, f func(T) (T, api.Errno), x T, data func(x *T) *[]byte) T {
	t.Helper()
	b, unchanged := fenced(*data(&x))
	*data(&x) = b
	y, e := f(x)
	if e != api.OK || !unchanged() {
		t.Fatal("a call returns", e, "or has changed its argument")
	}
	clear(b)
	return y
}

func ofCommand(x *api.Command) *[]byte { return &x.Data }

func ofResponse(r *api.Response) *[]byte { return &r.Data }

// TestMemory is about arguments, which are neither changed nor kept, and results, which are new memory.
func TestMemory(t *testing.T) {
	for _, level := range allLevels {
		terminal, card := newSides(t, level)
		chain := mac8
		for i := range 3 {
			x, r := commands()[i], responses()[i]
			want, mac := protectedCommand(sessionWith(level), chain, i+1, x)
			y := pass(t, terminal.Wrap, x, ofCommand)
			if !apdu.Same(y, want) {
				t.Error("Wrap returns", y)
			}
			chain = mac
			if got := pass(t, card.Unwrap, y, ofCommand); !apdu.Same(got, x) {
				t.Error("Unwrap returns", got)
			}
			clear(y.Data)
			sealed := pass(t, card.Seal, r, ofResponse)
			back := pass(t, terminal.Open, sealed, ofResponse)
			if !sameResponse(back, r) {
				t.Error("Open returns", back)
			}
			clear(sealed.Data)
		}
	}
}
