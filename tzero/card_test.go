package tzero_test

import (
	"bytes"
	"fmt"
	"math/rand/v2"
	"slices"
	"testing"

	"smartcard/api"
	"smartcard/tzero"
)

// P7.1

// cardModel is the definition of the card's side, which keeps what it has received but not yet used.
type cardModel struct {
	in      []int
	got     []byte
	waiting bool
	command api.Command
	out     bool // the header of the command is outgoing
	kept    []byte
	keptSW  int
	acked   bool // the data of the incoming command were asked for
}

// receive is the definition of Receive.
func (m *cardModel) receive(b []byte) []byte {
	m.got = append(m.got, b...)
	var sent []byte
	for !m.waiting && len(m.got) >= 5 {
		h := m.got[:5:5]
		cla, ins, n := int(h[0]), int(h[1]), int(h[4])
		meaning := cla&0x68 == 0
		incoming := slices.Contains(m.in, ins) || secure(cla)
		switch {
		case cla == 0xff:
			sent = append(sent, 0x6e, 0x00)
		case ins>>4 == 6 || ins>>4 == 9:
			sent = append(sent, 0x6d, 0x00)
		case ins == 0xc0 && meaning && cla < 0x80:
			sent = append(sent, m.getResponse(h)...)
		case incoming && n > 0 && !m.acked:
			m.kept = nil
			m.acked = true
			sent = append(sent, byte(ins))
			continue
		case incoming && len(m.got) < 5+n:
			return sent
		default:
			m.kept = nil
			m.wait(h, incoming)
		}
		m.got = m.got[5:]
		if m.waiting && m.acked {
			m.command.Data = m.got[:n:n]
			m.acked = false
		}
	}
	if m.waiting {
		m.got = nil
	}
	return sent
}

// wait lets the command of a header wait.
func (m *cardModel) wait(h []byte, incoming bool) {
	m.waiting, m.out = true, !incoming
	m.command = api.Command{CLA: int(h[0]), INS: int(h[1]), P1: int(h[2]), P2: int(h[3]), Le: 256}
	if !incoming && h[4] != 0 {
		m.command.Le = int(h[4])
	}
}

func (m *cardModel) getResponse(h []byte) []byte {
	n := int(h[4])
	if n == 0 {
		n = 256
	}
	switch {
	case h[2] != 0 || h[3] != 0:
		return []byte{0x6a, 0x86}
	case len(m.kept) == 0:
		return []byte{0x69, 0x85}
	case n > len(m.kept):
		return []byte{0x6c, byte(len(m.kept))}
	}
	sent := append([]byte{0xc0}, m.kept[:n]...)
	m.kept = m.kept[n:]
	switch {
	case len(m.kept) == 0:
		return append(sent, word(m.keptSW)...)
	case len(m.kept) > 255:
		return append(sent, 0x61, 0)
	}
	return append(sent, 0x61, byte(len(m.kept)))
}

// reply is the definition of Reply.
func (m *cardModel) reply(r api.Response) []byte {
	if !m.waiting {
		return nil
	}
	m.waiting = false
	switch {
	case len(r.Data) > 65536 || r.SW < 0x6100 || r.SW > 0x9fff || r.SW > 0x6fff && r.SW < 0x9000:
		return []byte{0x6f, 0x00}
	case len(r.Data) == 0:
		return word(r.SW)
	case m.out && len(r.Data) == m.command.Le:
		return slices.Concat([]byte{byte(m.command.INS)}, r.Data, word(r.SW))
	}
	m.kept, m.keptSW = bytes.Clone(r.Data), r.SW
	if len(r.Data) > 255 {
		return []byte{0x61, 0}
	}
	return []byte{0x61, byte(len(r.Data))}
}

// compare fails unless the card's side shows what the model does.
func (m *cardModel) compare(t *testing.T, c *tzero.Card, what string, got, want []byte) {
	t.Helper()
	if hex(got) != hex(want) {
		t.Fatalf("%.300s: %.300s instead of %.300s", what, hex(got), hex(want))
	}
	wantCommand, wantWait := none, ""
	if m.waiting {
		wantCommand, wantWait = show(m.command, true), "60"
	}
	if got := show(c.Command()); got != wantCommand {
		t.Fatalf("%.300s: the command is %s instead of %s", what, got, wantCommand)
	}
	if got := hex(c.Wait()); got != wantWait {
		t.Fatalf("%.300s: Wait returns %s", what, got)
	}
}

// randomHeader returns a header of one of the kinds that the chapter distinguishes.
func randomHeader(r *rand.Rand, in []int, kept int) []byte {
	pick := func(l ...int) byte { return byte(l[r.IntN(len(l))]) }
	cla := pick(0x00, 0x00, 0x02, 0x80, 0x04, 0x97, 0x10, 0x0c, 0x40, 0xfe)
	p3 := pick(0, 1, 2, 5, 255, r.IntN(256))
	switch r.IntN(8) {
	case 0:
		return []byte{0xff, pick(0xb0, 0xc0, 0xd6, 0x61), 1, 2, p3}
	case 1:
		return []byte{cla, pick(0x60, 0x6f, 0x90, 0x9f, 0x61, 0x70, 0xa0), 0, 0, p3}
	case 2, 3, 4:
		n := pick(kept, kept, kept-1, kept+1, kept/2, int(p3))
		return []byte{cla, 0xc0, pick(0, 0, 0, 0, 0, 1), pick(0, 0, 0, 0, 0, 1), n}
	case 5, 6:
		return []byte{cla, byte(in[r.IntN(len(in))]), byte(r.IntN(256)), 0, p3}
	}
	return []byte{cla, pick(0xb0, 0xb2, 0xca), 0, byte(r.IntN(256)), p3}
}

func TestCardModel(t *testing.T) {
	r := rand.New(rand.NewPCG(7, 1))
	for range 1200 {
		in := []int{0xd6, 0xa4, 0xe2, 0xc0, r.IntN(256)}[r.IntN(4):]
		c, m := tzero.NewCard(in), &cardModel{in: in}
		for range 40 {
			if m.waiting && r.IntN(4) > 0 {
				reply := api.Response{Data: filled(r.IntN(1 + r.IntN(600))), SW: []int{0x9000, 0x6282, 0x6100, 0x61ff, 0x9fff, 0x6fff, 0x60ff, 0x7000, 0x8fff, 0xa000, 0, -1, 0x19000}[r.IntN(13)]}
				if r.IntN(2) == 0 {
					reply.Data = filled(m.command.Le)
				}
				got, want := c.Reply(reply), m.reply(reply)
				m.compare(t, c, fmt.Sprint("Reply ", len(reply.Data), " ", reply.SW), got, want)
				continue
			}
			b := randomHeader(r, in, len(m.kept))
			if r.IntN(3) > 0 {
				b = append(b, filled(int(b[4])+r.IntN(3)/2)...)
			}
			if r.IntN(20) == 0 {
				b = b[:r.IntN(len(b))]
			}
			for _, part := range split(r, b) {
				got, want := c.Receive(part), m.receive(part)
				m.compare(t, c, "Receive "+hex(part)+" of "+hex(b), got, want)
			}
			if !m.waiting {
				got, want := c.Reply(api.Response{Data: filled(3), SW: api.SWOK}), m.reply(api.Response{})
				m.compare(t, c, "Reply without a command", got, want)
			}
		}
	}
}

// TestCardHeaders compares the answers to all headers with one P3, and what is kept after them.
func TestCardHeaders(t *testing.T) {
	in := []int{0xd6, 0xa4, 0xc0, 0x61, 0x90}
	for cla := range 256 {
		for ins := range 256 {
			for _, p3 := range []byte{0, 1} {
				c, m := tzero.NewCard(in), &cardModel{in: in}
				keep := func(b []byte, reply api.Response) {
					c.Receive(b)
					m.receive(b)
					got, want := c.Reply(reply), m.reply(reply)
					m.compare(t, c, "Reply", got, want)
				}
				keep(raw("00 b0 00 00 00"), api.Response{Data: filled(7), SW: api.SWWarning})
				for _, b := range [][]byte{{byte(cla), byte(ins), 0, 0, p3}, {0x55}} {
					got, want := c.Receive(b), m.receive(b)
					m.compare(t, c, "Receive "+hex(b), got, want)
				}
				got, want := c.Reply(api.Response{SW: api.SWOK}), m.reply(api.Response{SW: api.SWOK})
				m.compare(t, c, "Reply", got, want)
				for _, b := range [][]byte{raw("00 c0 00 00 06"), raw("00 c0 00 00 06")} { // the byte 55 may have begun a header
					got, want := c.Receive(b), m.receive(b)
					m.compare(t, c, fmt.Sprint(cla, ins, p3, ", then ", hex(b)), got, want)
				}
			}
		}
	}
}

// call is a call of the card's side: the bytes to receive, or a reply of N bytes with a status word; and what the card sends.
type call struct {
	receive string
	n, sw   int
	want    string
}

// play makes the calls, and compares what the card sends.
func play(t *testing.T, name string, c *tzero.Card, calls []call) {
	t.Helper()
	for i, x := range calls {
		var got []byte
		if x.sw != 0 {
			got = c.Reply(api.Response{Data: filled(x.n), SW: x.sw})
		} else {
			got = c.Receive(raw(x.receive))
		}
		if hex(got) != hex(raw(x.want)) {
			t.Errorf("%s, call %d: %.200s instead of %.200s", name, i, hex(got), x.want)
		}
	}
}

// part returns the text for bytes of n filled ones.
func part(n, from, to int) string { return hex(filled(n)[from:to]) }

func TestCardReply(t *testing.T) {
	read, write := call{receive: "00 b0 00 00 04"}, call{receive: "00 d6 00 00 01 77", want: "d6"}
	for name, calls := range map[string][]call{
		"nothing waits":                {{n: 4, sw: 0x9000}, read, {n: 4, sw: 0x9000, want: "b0 4* 9000"}, {n: 4, sw: 0x9000}, {receive: "00 c0 00 00 04", want: "6985"}},
		"no data":                      {read, {sw: 0x6982, want: "6982"}, write, {sw: 0x6101, want: "6101"}, {receive: "00 c0 00 00 01", want: "6985"}},
		"exactly Le bytes":             {read, {n: 4, sw: 0x6283, want: "b0 4* 6283"}, {receive: "00 b0 00 00 00"}, {n: 256, sw: 0x9000, want: "b0 256* 9000"}, {receive: "00 b0 00 00 ff"}, {n: 255, sw: 0x9000, want: "b0 255* 9000"}},
		"fewer than Le bytes":          {read, {n: 3, sw: 0x9000, want: "6103"}, {receive: "00 c0 00 00 03", want: "c0 3* 9000"}, {receive: "00 c0 00 00 03", want: "6985"}},
		"more than Le bytes":           {read, {n: 5, sw: 0x9000, want: "6105"}, {receive: "00 c0 00 00 04", want: "c0 " + part(5, 0, 4) + "6101"}, {receive: "00 c0 00 00 01", want: "c0 " + part(5, 4, 5) + "9000"}},
		"an incoming header":           {write, {n: 1, sw: 0x9000, want: "6101"}, {receive: "00 c0 00 00 01", want: "c0 1* 9000"}, {receive: "00 d6 00 00 00"}, {n: 256, sw: 0x9000, want: "6100"}, {receive: "00 c0 00 00 00", want: "c0 256* 9000"}},
		"255, 256 and 257 bytes":       {write, {n: 255, sw: 0x9000, want: "61ff"}, write, {n: 256, sw: 0x9000, want: "6100"}, write, {n: 257, sw: 0x9000, want: "6100"}, {receive: "00 c0 00 00 00", want: "c0 " + part(257, 0, 256) + "6101"}},
		"many bytes are left":          {write, {n: 600, sw: 0x6282, want: "6100"}, {receive: "00 c0 00 00 00", want: "c0 " + part(600, 0, 256) + "6100"}, {receive: "00 c0 00 00 58", want: "c0 " + part(600, 256, 344) + "6100"}, {receive: "00 c0 00 00 01", want: "c0 " + part(600, 344, 345) + "61ff"}, {receive: "00 c0 00 00 ff", want: "c0 " + part(600, 345, 600) + "6282"}},
		"too many are asked for":       {write, {n: 3, sw: 0x9000, want: "6103"}, {receive: "00 c0 00 00 04", want: "6c03"}, {receive: "00 c0 00 00 00", want: "6c03"}, {receive: "00 c0 00 00 03", want: "c0 3* 9000"}, write, {n: 255, sw: 0x9000, want: "61ff"}, {receive: "00 c0 00 00 00", want: "6cff"}},
		"P1 and P2":                    {write, {n: 3, sw: 0x9000, want: "6103"}, {receive: "00 c0 01 00 03", want: "6a86"}, {receive: "00 c0 00 01 09", want: "6a86"}, {receive: "00 c0 00 00 03", want: "c0 3* 9000"}, {receive: "00 c0 80 00 03", want: "6a86"}},
		"nothing is kept":              {{receive: "00 c0 00 00 00", want: "6985"}, {receive: "00 c0 00 00 01", want: "6985"}, {receive: "00 c0 00 01 01", want: "6a86"}},
		"a command forgets":            {write, {n: 3, sw: 0x9000, want: "6103"}, {receive: "00 a2 00 00 00"}, {sw: 0x9000, want: "9000"}, {receive: "00 c0 00 00 03", want: "6985"}},
		"a command with data forgets":  {write, {n: 3, sw: 0x9000, want: "6103"}, write, {sw: 0x9000, want: "9000"}, {receive: "00 c0 00 00 03", want: "6985"}},
		"wrong headers do not forget":  {write, {n: 3, sw: 0x9000, want: "6103"}, {receive: "ff c0 00 00 03", want: "6e00"}, {receive: "00 61 00 00 03 00 9f 00 00 00", want: "6d00 6d00"}, {receive: "ff 61 00 00 03", want: "6e00"}, {receive: "00 c0 00 00 03", want: "c0 3* 9000"}},
		"other classes":                {write, {n: 3, sw: 0x9000, want: "6103"}, {receive: "03 c0 00 00 01", want: "c0 " + part(3, 0, 1) + "6102"}, {receive: "14 c0 00 00 01", want: "c0 " + part(3, 1, 2) + "6101"}, {receive: "80 c0 00 00 01"}, {n: 1, sw: 0x9000, want: "c0 1* 9000"}, {receive: "08 c0 00 00 01"}, {n: 1, sw: 0x9000, want: "c0 1* 9000"}, {receive: "00 c0 00 00 01", want: "6985"}},
		"a response that is not valid": {read, {n: 4, sw: 0x6000, want: "6f00"}, read, {n: 65537, sw: 0x9000, want: "6f00"}, read, {n: 4, sw: -1, want: "6f00"}, write, {n: 4, sw: 0x19000, want: "6f00"}, {receive: "00 c0 00 00 04", want: "6985"}, write, {n: 65536, sw: 0x9000, want: "6100"}},
		"bytes while a command waits":  {read, {receive: "00 c0 00 00 04 ff 00 00 00 00 60"}, {n: 4, sw: 0x9000, want: "b0 4* 9000"}, {receive: "00 d6 00 00 01 77 00 b0 00 00 04", want: "d6"}, {sw: 0x9000, want: "9000"}, read},
	} {
		play(t, name, tzero.NewCard([]int{0xd6}), calls)
	}
}

func TestCardCommands(t *testing.T) {
	for _, s := range []struct{ receive, want, command string }{
		{"", "", none},
		{"00 b0 00 00", "", none},
		{"00 b0 01 02 00", "", "true 0 176 1 2 256 "},
		{"00 b0 01 02 ff", "", "true 0 176 1 2 255 "},
		{"80 b0 01 02 01", "", "true 128 176 1 2 1 "},
		{"40 b0 ff fe 01", "", "true 64 176 255 254 1 "},
		{"00 d6 01 02 00", "", "true 0 214 1 2 256 "},
		{"00 d6 01 02 02", "d6", none},
		{"00 d6 01 02 02 0a", "d6", none},
		{"00 d6 01 02 02 0a 0b", "d6", "true 0 214 1 2 256 0a0b"},
		{"00 d6 01 02 02 0a 0b 0c", "d6", "true 0 214 1 2 256 0a0b"},
		{"00 d6 00 00 ff 255*", "d6", "true 0 214 0 0 256 " + hex(filled(255))},
		{"00 d6 00 00 ff 254*", "d6", none},
		{"44 d6 00 00 01 05", "d6", "true 68 214 0 0 256 05"},
		{"04 b0 00 00 01 05", "b0", "true 4 176 0 0 256 05"},
		{"97 b0 00 00 01 05", "b0", "true 151 176 0 0 256 05"},
		{"84 b0 00 00 00", "", "true 132 176 0 0 256 "},
		{"0c b0 00 00 01 05", "", "true 12 176 0 0 1 "}, // a class byte without a meaning
		{"44 b0 00 00 01 05", "", "true 68 176 0 0 1 "},
		{"80 c0 01 00 01", "", "true 128 192 1 0 1 "},
		{"84 c0 01 00 01 05", "c0", "true 132 192 1 0 256 05"},
		{"ff b0 00 00 00 00 b0 00 00 04", "6e00", "true 0 176 0 0 4 "},
		{"00 60 00 00 00 00 9f 00 00 04 04 6a 00 00 01 00 50 00 00 04", "6d00 6d00 6d00", "true 0 80 0 0 4 "},
		{"00 c0 00 00 00 00 d6 00 00 01 09", "6985 d6", "true 0 214 0 0 256 09"},
	} {
		for size := 1; size < 300; size = size*3 + 1 {
			c := tzero.NewCard([]int{0xd6})
			var sent []byte
			for b := range slices.Chunk(raw(s.receive), size) {
				sent = append(sent, c.Receive(b)...)
			}
			for range 2 {
				if got := show(c.Command()); got != s.command || hex(sent) != hex(raw(s.want)) {
					t.Error(s.receive, size, got, hex(sent))
				}
				if got := hex(c.Wait()); got != map[bool]string{true: "60"}[s.command != none] {
					t.Error(s.receive, size, got)
				}
			}
		}
	}
}
