package tone_test

import (
	"bytes"
	"fmt"
	"math"
	"math/rand/v2"
	"testing"

	"smartcard/api"
	"smartcard/block"
	"smartcard/octets"
	"smartcard/tone"
)

// P8.1

func TestCardReceive(t *testing.T) {
	// READING with the first block of a chain, WAITING, WRITING the last or the first of two pieces, and ASKING
	reads := step{"receive I 0 more 01", "R 1 fine"}
	waits := step{"receive I 0 last 01", ""}
	ends := step{"reply 9000", "I 0 last 9000"}
	writes := step{"reply 33*", "I 0 more " + long(33)[:64]}
	asks := step{"extend 7", "S wtx request 07"}
	playCard(t, []script{
		{"rule 1: nothing is sent while a command waits", 32, steps(waits,
			step{"receive I 1 last 02", ""}, step{"receive I 0 last 02", ""}, step{"receive R 1 fine", ""}, step{"receive R 0 other", ""}, step{"receive damaged R 0 fine", ""}, step{"receive bytes -", ""},
			step{"receive S resync request -", ""}, step{"receive S abort request -", ""}, step{"receive S ifs request 01", ""}, step{"receive S wtx answer 01", ""}, step{"receive NAD5 R 0 fine", ""},
			step{"command", "01"}, ends, step{"receive I 1 last 03", ""}, step{"command", "03"}, step{"reply 33*", "I 1 more " + long(33)[:64]})},
		{"rule 2: the request is repeated until it is answered", 32, steps(waits, asks,
			step{"receive S wtx request 07", "S wtx request 07"}, step{"receive S wtx answer 06", "S wtx request 07"}, step{"receive damaged S wtx answer 07", "S wtx request 07"}, step{"receive NAD5 S wtx answer 07", "S wtx request 07"},
			step{"receive bytes -", "S wtx request 07"}, step{"receive I 1 last 02", "S wtx request 07"}, step{"receive R 0 fine", "S wtx request 07"}, step{"receive S ifs answer 07", "S wtx request 07"},
			step{"receive S resync request -", "S wtx request 07"}, step{"receive S abort request -", "S wtx request 07"}, step{"receive S ifs request 01", "S wtx request 07"},
			step{"command", "01"}, step{"reply 9000", ""}, step{"receive S wtx answer 07", ""}, step{"receive S wtx answer 07", ""}, step{"command", "01"}, ends)},
		{"rule 3: damage", 32, steps(
			step{"receive damaged R 0 fine", "R 0 sum"}, step{"receive damaged I 0 last 01", "R 0 sum"}, step{"receive damaged S resync request -", "R 0 sum"},
			step{"receive bytes -", "R 0 other"}, step{"receive bytes 00", "R 0 other"}, step{"receive bytes 0080", "R 0 other"},
			step{"receive NAD5 I 0 last 01", "R 0 other"}, step{"receive NAD5 R 0 fine", "R 0 other"}, step{"receive NAD5 S resync request -", "R 0 other"},
			step{"receive I 0 last 33*", "R 0 other"}, step{"receive I 1 last 33*", "R 0 other"}, step{"receive I 0 more 254*", "R 0 other"},
			reads, step{"receive damaged I 1 last 02", "R 1 sum"}, step{"receive NAD5 I 1 last 02", "R 1 other"}, step{"receive I 1 more 33*", "R 1 other"},
			step{"receive I 1 last 32*", ""}, step{"command", "01" + long(32)},
			writes, step{"receive damaged R 0 fine", "R 0 sum"}, step{"receive bytes -", "R 0 other"}, step{"receive NAD5 R 1 fine", "R 0 other"}, step{"receive I 0 last 33*", "R 0 other"}, step{"receive R 1 fine", "I 1 last " + long(33)[64:]})},
		{"rule 4: the number of an I-block", 32, steps(
			step{"receive I 1 last 01", "R 0 other"}, step{"receive I 1 more 01", "R 0 other"}, step{"command", "none"},
			reads, step{"receive I 0 more 01", "R 1 other"}, step{"receive I 0 last 01", "R 1 other"}, step{"command", "none"},
			step{"receive I 1 more 02", "R 0 fine"}, step{"receive I 0 last 03", ""}, step{"command", "010203"}, ends,
			step{"receive I 0 last 04", "R 1 other"}, step{"receive I 1 last 05", ""}, step{"command", "05"})},
		{"rule 4: not before all pieces are sent", 32, steps(waits, writes,
			step{"receive I 1 last 02", "R 1 other"}, step{"receive I 0 last 02", "R 1 other"}, step{"receive I 1 more 02", "R 1 other"}, step{"command", "none"},
			step{"receive R 1 fine", "I 1 last " + long(33)[64:]}, step{"receive I 1 more 02", "R 0 fine"}, step{"receive I 0 last 03", ""}, step{"command", "0203"})},
		{"rule 4: empty blocks", 32, steps(
			step{"receive I 0 last -", ""}, step{"command", "-"}, step{"reply -", "I 0 last -"}, step{"receive R 0 fine", "I 0 last -"},
			step{"receive I 1 more -", "R 0 fine"}, step{"receive I 0 more -", "R 1 fine"}, step{"receive I 1 last 09", ""}, step{"command", "09"})},
		{"rule 5: the last I-block again", 32, steps(waits, ends,
			step{"receive R 0 fine", "I 0 last 9000"}, step{"receive R 0 sum", "I 0 last 9000"}, step{"receive R 0 other", "I 0 last 9000"}, step{"receive R 1 fine", "R 1 fine"}, step{"receive R 1 other", "R 1 fine"},
			step{"receive R 0 fine", "I 0 last 9000"})},
		{"rule 5: the next piece", 32, steps(waits, step{"reply 65*", "I 0 more " + long(65)[:64]},
			step{"receive R 0 fine", "I 0 more " + long(65)[:64]}, step{"receive R 1 sum", "I 1 more " + long(65)[64:128]}, step{"receive R 1 fine", "I 1 more " + long(65)[64:128]},
			step{"receive R 0 other", "I 0 last " + long(65)[128:]}, step{"receive R 0 fine", "I 0 last " + long(65)[128:]}, step{"receive R 1 fine", "R 1 fine"})},
		{"rule 5: nothing to send", 32, steps(
			step{"receive R 0 fine", "R 0 fine"}, step{"receive R 1 other", "R 0 fine"}, step{"receive R 0 sum", "R 0 fine"},
			reads, step{"receive R 0 fine", "R 1 fine"}, step{"receive R 1 sum", "R 1 fine"}, step{"receive I 1 last 02", ""}, step{"command", "0102"},
			ends, step{"receive I 0 more 03", "R 1 fine"}, step{"receive R 0 fine", "R 1 fine"}, step{"receive R 1 fine", "R 1 fine"})},
		{"rule 6: resynchronization", 32, steps(waits, ends, step{"receive I 1 more 02", "R 0 fine"}, step{"receive S resync request -", "S resync answer -"},
			step{"receive R 0 fine", "R 0 fine"}, step{"receive I 1 last 03", "R 0 other"}, step{"receive I 0 last 03", ""}, step{"command", "03"}, ends)},
		{"rule 6: resynchronization while it writes", 32, steps(waits, writes, step{"receive S resync request -", "S resync answer -"},
			step{"receive R 1 fine", "R 0 fine"}, step{"receive R 0 fine", "R 0 fine"}, waits, step{"command", "01"}, ends)},
		{"rule 6: the greatest information field", 32, steps(step{"receive S ifs request 02", "S ifs answer 02"}, waits, step{"reply 010203", "I 0 more 0102"},
			step{"receive S ifs request 01", "S ifs answer 01"}, step{"receive R 1 fine", "I 1 last 03"}, // the pieces are as they were
			step{"receive I 1 last 02", ""}, step{"reply 010203", "I 0 more 01"}, step{"receive S ifs request fe", "S ifs answer fe"}, step{"receive R 1 fine", "I 1 more 02"}, step{"receive R 0 fine", "I 0 last 03"},
			step{"receive I 0 last 03", ""}, step{"reply 254*", "I 1 last " + long(254)})},
		{"rule 6: the greatest information field while it reads", 32, steps(reads, step{"receive S ifs request 01", "S ifs answer 01"}, step{"receive I 1 last 02", ""}, step{"command", "0102"}, step{"reply 0304", "I 0 more 03"})},
		{"rule 6: abort", 32, steps(reads, step{"receive S abort request -", "S abort answer -"}, step{"receive I 1 last 02", ""}, step{"command", "02"}, // the numbers go on
			writes, step{"receive S abort request -", "S abort answer -"}, step{"receive R 1 fine", "R 0 fine"}, step{"receive R 0 fine", "R 0 fine"},
			step{"receive I 0 last 03", ""}, step{"command", "03"}, step{"reply 04", "I 1 last 04"})},
		{"rule 6: all other S-blocks", 32, steps(
			step{"receive S wtx request 01", "R 0 other"}, step{"receive S wtx answer 01", "R 0 other"}, step{"receive S resync answer -", "R 0 other"}, step{"receive S ifs answer 01", "R 0 other"}, step{"receive S abort answer -", "R 0 other"},
			reads, step{"receive S resync answer -", "R 1 other"}, step{"receive S abort answer -", "R 1 other"}, step{"receive I 1 last 02", ""}, step{"command", "0102"},
			writes, step{"receive S resync answer -", "R 0 other"}, step{"receive S ifs answer 01", "R 0 other"}, step{"receive S wtx request 01", "R 0 other"}, step{"receive R 1 fine", "I 1 last " + long(33)[64:]})},
		{"its own greatest information field", 3, steps(step{"receive I 0 more 01020304", "R 0 other"}, step{"receive I 0 more 010203", "R 1 fine"}, step{"receive I 1 last 040506", ""}, step{"command", "010203040506"},
			step{"reply 32*", "I 0 last " + long(32)})}, // the other side's is 32
	})
}

func TestCardLimit(t *testing.T) {
	// 258 blocks of 254 bytes are 65532 bytes
	var fill []step
	for i := range 258 {
		fill = append(fill, step{"receive I " + fmt.Sprint(i%2) + " more 254*", "R " + fmt.Sprint((i+1)%2) + " fine"})
	}
	var whole []byte
	for range 258 {
		whole = append(whole, filled(254)...)
	}
	playCard(t, []script{
		{"the longest command", 254, steps(fill, step{"receive I 0 last 20*", ""}, step{"command", octets.Hex(whole) + long(20)}, step{"reply 9000", "I 0 last 9000"})},
		{"the longest command, with an empty block at the end", 254, steps(fill, step{"receive I 0 more 20*", "R 1 fine"}, step{"receive I 1 last -", ""}, step{"command", octets.Hex(whole) + long(20)})},
		{"a byte more", 254, steps(fill, step{"receive I 0 last 21*", "R 1 other"}, step{"command", "none"}, step{"reply 9000", ""}, step{"receive R 0 fine", "R 1 fine"}, step{"receive I 1 last 01", ""}, step{"command", "01"})},
		{"a byte more, and the chain goes on", 254, steps(fill, step{"receive I 0 more 21*", "R 1 other"}, step{"command", "none"}, step{"receive I 1 more 01", "R 0 fine"}, step{"receive I 0 last 02", ""}, step{"command", "0102"})},
		{"a byte more, in a block of its own", 254, steps(fill, step{"receive I 0 more 20*", "R 1 fine"}, step{"receive I 1 more 01", "R 0 other"}, step{"receive I 0 last 01", ""}, step{"command", "01"})},
	})
}

// P8.2

func TestCardCalls(t *testing.T) {
	waits := step{"receive I 0 last 0102", ""}
	no := []step{{"command", "none"}, {"reply 9000", ""}, {"reply -", ""}, {"extend 1", ""}}
	playCard(t, []script{
		{"resting", 32, steps(no, waits)},
		{"reading", 32, steps(step{"receive I 0 more 01", "R 1 fine"}, no, step{"receive I 1 last 02", ""}, step{"command", "0102"})},
		{"waiting", 32, steps(waits, step{"command", "0102"}, step{"command", "0102"}, step{"extend 0", ""}, step{"extend -1", ""}, step{"extend 256", ""}, step{"extend 257", ""}, step{"extend 4294967297", ""}, step{"extend -255", ""},
			step{"command", "0102"}, step{"reply 9000", "I 0 last 9000"})},
		{"asking", 32, steps(waits, step{"extend 1", "S wtx request 01"}, step{"command", "0102"}, step{"extend 1", ""}, step{"extend 2", ""}, step{"reply 9000", ""}, step{"command", "0102"},
			step{"receive R 0 fine", "S wtx request 01"}, step{"receive S wtx answer 01", ""}, step{"command", "0102"},
			step{"extend 255", "S wtx request ff"}, step{"receive S wtx answer 01", "S wtx request ff"}, step{"receive S wtx answer ff", ""}, step{"reply 9000", "I 0 last 9000"})},
		{"writing", 32, steps(waits, step{"reply 9000", "I 0 last 9000"}, no, step{"receive I 1 last 03", ""}, step{"command", "03"}, step{"reply 33*", "I 1 more " + long(33)[:64]}, no, step{"receive R 0 fine", "I 0 last " + long(33)[64:]})},
		{"pieces", 32, steps(waits, step{"reply 64*", "I 0 more " + long(64)[:64]}, step{"receive R 1 fine", "I 1 last " + long(64)[64:]})},
		{"one piece", 32, steps(waits, step{"reply 32*", "I 0 last " + long(32)})},
	})
	c := tone.NewCard(32, api.SumLRC)
	c.Receive(sent("I 0 last 01", api.SumLRC))
	for _, n := range []int{math.MinInt, math.MaxInt, math.MinInt + 1} {
		if got := c.Extend(n); len(got) != 0 {
			t.Error(n, octets.Hex(got))
		}
	}
}

// sender is the definition of what both sides do to send bytes.
type sender struct {
	next, sentSeq int
	sentMore      bool
	sentInf       []byte
	pieces        [][]byte
}

func (m *sender) sendPiece() string {
	m.sentInf, m.pieces = m.pieces[0], m.pieces[1:]
	m.sentSeq, m.sentMore = m.next, len(m.pieces) > 0
	m.next = 1 - m.next
	return m.again()
}

func (m *sender) again() string { return information(m.sentSeq, m.sentMore, m.sentInf) }

// cardModel is the definition of the card's side.
type cardModel struct {
	sender
	state                   string
	sum, own, other, expect int
	in                      []byte
	asked                   byte
}

func newCardModel(ifs, sum int) *cardModel {
	return &cardModel{state: "RESTING", sum: sum, own: ifs, other: 32}
}

// information, ready and supervisory return the texts of blocks.
func information(seq int, more bool, inf []byte) string {
	word := map[bool]string{true: "more", false: "last"}[more]
	return fmt.Sprint("I ", seq, " ", word, " ", text(inf, true))
}

func ready(seq, code int) string {
	return fmt.Sprint("R ", seq, " ", []string{"fine", "sum", "other"}[code])
}

func supervisory(code int, answer bool, inf []byte) string {
	word := map[bool]string{true: "answer", false: "request"}[answer]
	return fmt.Sprint("S ", []string{"resync", "ifs", "abort", "wtx"}[code], " ", word, " ", text(inf, true))
}

// damage returns the block, and the reason for which a transmission is damaged; -1 if it is not.
func damage(b []byte, sum, own int) (api.Block, int) {
	x, e := block.Decode(b, sum)
	if e == api.ErrSum {
		return x, api.RSum
	}
	if e != api.OK || x.NAD != 0 || (x.Kind == api.BlockI && len(x.Inf) > own) {
		return x, api.ROther
	}
	return x, -1
}

// divided returns the pieces of bytes.
func divided(b []byte, n int) [][]byte {
	var all [][]byte
	for len(b) > n {
		all, b = append(all, bytes.Clone(b[:n])), b[n:]
	}
	return append(all, bytes.Clone(b))
}

func (m *cardModel) receive(b []byte) string {
	x, reason := damage(b, m.sum, m.own)
	switch {
	case m.state == "WAITING":
		return ""
	case m.state == "ASKING":
		if reason == -1 && x.Kind == api.BlockS && x.Code == api.SWTX && x.Answer && x.Inf[0] == m.asked {
			m.state = "WAITING"
			return ""
		}
		return supervisory(api.SWTX, false, []byte{m.asked})
	case reason != -1:
		return ready(m.expect, reason)
	case x.Kind == api.BlockI:
		return m.receiveI(x)
	case x.Kind == api.BlockR && m.state == "WRITING" && x.Seq == m.sentSeq:
		return m.again()
	case x.Kind == api.BlockR && m.state == "WRITING" && len(m.pieces) > 0:
		return m.sendPiece()
	case x.Kind == api.BlockR:
		return ready(m.expect, api.RFine)
	case x.Answer || x.Code == api.SWTX:
		return ready(m.expect, api.ROther)
	}
	switch x.Code {
	case api.SResync:
		m.expect, m.next, m.pieces, m.in, m.state = 0, 0, nil, nil, "RESTING"
	case api.SIFS:
		m.other = int(x.Inf[0])
	case api.SAbort:
		m.pieces, m.in, m.state = nil, nil, "RESTING"
	}
	return supervisory(x.Code, true, x.Inf)
}

func (m *cardModel) receiveI(x api.Block) string {
	if x.Seq != m.expect || (m.state == "WRITING" && len(m.pieces) > 0) {
		return ready(m.expect, api.ROther)
	}
	m.expect = 1 - m.expect
	if m.state != "READING" {
		m.in = nil
	}
	m.in = append(m.in, x.Inf...)
	if len(m.in) > 65536+16 {
		m.in, m.state = nil, "RESTING"
		return ready(m.expect, api.ROther)
	}
	if x.More {
		m.state = "READING"
		return ready(m.expect, api.RFine)
	}
	m.state = "WAITING"
	return ""
}

func (m *cardModel) command() string {
	if m.state != "WAITING" && m.state != "ASKING" {
		return text(nil, false)
	}
	return text(m.in, true)
}

func (m *cardModel) reply(b []byte) string {
	if m.state != "WAITING" {
		return ""
	}
	m.state = "WRITING"
	m.pieces = divided(b, m.other)
	return m.sendPiece()
}

func (m *cardModel) extend(n int) string {
	if m.state != "WAITING" || n < 1 || n > 255 {
		return ""
	}
	m.state, m.asked = "ASKING", byte(n)
	return supervisory(api.SWTX, false, []byte{m.asked})
}

// transmission returns a random transmission to a side that has the given numbers: often one that it expects, sometimes a damaged one.
func transmission(r *rand.Rand, sum, own, expect, sentSeq int, request api.Block) []byte {
	var b api.Block
	switch r.IntN(10) {
	case 0, 1, 2, 3:
		b = api.Block{Seq: expect, More: r.IntN(2) == 0, Inf: filled(r.IntN(min(own+2, 255)))}
		if r.IntN(6) == 0 {
			b.Seq = 1 - expect
		}
	case 4, 5, 6:
		b = api.Block{Kind: api.BlockR, Seq: 1 - sentSeq, Code: r.IntN(3)}
		if r.IntN(4) == 0 {
			b.Seq = sentSeq
		}
	case 7:
		b = api.Block{Kind: api.BlockS, Code: r.IntN(4), Answer: r.IntN(3) == 0}
		if b.Code == api.SIFS || b.Code == api.SWTX {
			b.Inf = []byte{byte(1 + r.IntN(254)>>r.IntN(8))}
		}
	case 8:
		b = request
		b.Answer = true
		if r.IntN(8) == 0 {
			b.Inf[0] ^= 1
		}
	case 9:
		junk := make([]byte, r.IntN(8))
		for i := range junk {
			junk[i] = byte(r.IntN(256)) & byte(r.IntN(256))
		}
		return junk
	}
	if r.IntN(12) == 0 {
		b.NAD = r.IntN(255)
	}
	x, _ := block.Encode(b, sum)
	if len(x) > 0 && r.IntN(8) == 0 {
		return flipped(x, r.IntN(8*len(x)))
	}
	return x
}

// wellFormed fails unless bytes are none, or those of a block (P8.9).
func wellFormed(t *testing.T, b []byte, sum int) {
	t.Helper()
	if _, e := block.Decode(b, sum); len(b) > 0 && e != api.OK {
		t.Fatal(octets.Hex(b), e)
	}
}

// P8.1, P8.2 and, of the card, P8.9

func TestCardModel(t *testing.T) {
	r := rand.New(rand.NewPCG(8, 1))
	states := map[string]int{}
	for n := range 3000 {
		sum := n % 2
		ifs := 1 + r.IntN(254)>>r.IntN(8)
		c, m := tone.NewCard(ifs, sum), newCardModel(ifs, sum)
		for i := range 60 {
			states[m.state]++
			var b []byte
			var want, did string
			switch k := r.IntN(20); {
			case k < 2 || k < 8 && m.state == "WAITING":
				size := r.IntN(4 * m.other)
				did, b, want = fmt.Sprint("reply ", size), c.Reply(filled(size)), m.reply(filled(size))
			case k == 2 || k < 11 && m.state == "WAITING":
				n := []int{1, 2, 255, 256, 0, -1, 257}[r.IntN(7)]
				did, b, want = fmt.Sprint("extend ", n), c.Extend(n), m.extend(n)
			default:
				x := transmission(r, sum, m.own, m.expect, m.sentSeq, api.Block{Kind: api.BlockS, Code: api.SWTX, Inf: []byte{m.asked}})
				did, b, want = "receive "+octets.Hex(x), c.Receive(x), m.receive(x)
			}
			wellFormed(t, b, sum)
			if got := show(b, sum); got != want {
				t.Fatalf("side %d, call %d, %s: %q instead of %q", n, i, did, got, want)
			}
			if got, want := text(c.Command()), m.command(); got != want {
				t.Fatalf("side %d, call %d, %s: the command is %q instead of %q", n, i, did, got, want)
			}
		}
	}
	for _, s := range []string{"RESTING", "READING", "WAITING", "ASKING", "WRITING"} {
		if states[s] < 1000 {
			t.Error(s, states[s])
		}
	}
}
