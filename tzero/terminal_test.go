package tzero_test

import (
	"fmt"
	"math/rand/v2"
	"slices"
	"testing"

	"smartcard/api"
	"smartcard/tzero"
)

// P7.2

// played is the definition of the terminal's side: what it has sent after the header of a command, given all that it has received since; and its response, or that it has failed.
func played(c api.Command, got []byte) (sent []byte, response api.Response, complete, failed bool) {
	ins, count, asks, moved := byte(c.INS), c.Le%256, len(c.Data) == 0, false
	for len(got) > 0 {
		x := got[0]
		got = got[1:]
		switch {
		case x == 0x60:
		case x == ins && !moved && !asks:
			moved = true
			sent = append(sent, c.Data...)
		case x == ins && !moved:
			moved = true
			n := min(len(got), 1+(count+255)%256)
			response.Data = append(response.Data, got[:n]...)
			got = got[n:]
		case x >= 0x61 && x <= 0x6f || x >= 0x90 && x <= 0x9f:
			if len(got) == 0 {
				return sent, api.Response{}, false, false
			}
			y := got[0]
			got = got[1:]
			if x != 0x61 {
				response.SW = int(x)*256 + int(y)
				if !secure(c.CLA) {
					response.Data = response.Data[:min(len(response.Data), c.Le)]
				}
				return sent, response, true, false
			}
			channel := byte(0)
			if c.CLA&0x68 == 0 {
				channel = byte(c.CLA % 4)
			}
			sent = append(sent, channel, 0xc0, 0, 0, y)
			ins, count, asks, moved = 0xc0, int(y), true, false
		default:
			return sent, api.Response{}, false, true
		}
	}
	return sent, api.Response{}, false, false
}

// compare fails unless a terminal's side, which has sent the given bytes after its header, is as played says.
func compare(t *testing.T, x *tzero.Terminal, c api.Command, got, sent []byte) {
	t.Helper()
	want, response, complete, failed := played(c, got)
	what := fmt.Sprintf("%s, received %.200s", show(c, true), hex(got))
	if hex(sent) != hex(want) {
		t.Fatalf("%s: sent %.200s instead of %.200s", what, hex(sent), hex(want))
	}
	if got, want := showResponse(x.Response()), showResponse(response, complete); got != want {
		t.Fatalf("%s: %.200s instead of %.200s", what, got, want)
	}
	if e := x.Failed(); failed != (e == api.ErrProtocol) || !failed && e != api.OK {
		t.Fatal(what, e, failed)
	}
}

// headerOf is the definition of the header of a command.
func headerOf(c api.Command) []byte {
	p3 := c.Le % 256
	if len(c.Data) > 0 {
		p3 = len(c.Data)
	}
	return []byte{byte(c.CLA), byte(c.INS), byte(c.P1), byte(c.P2), byte(p3)}
}

// randomCommand returns a command of any case.
func randomCommand(r *rand.Rand) api.Command {
	pick := func(l ...int) int { return l[r.IntN(len(l))] }
	return api.Command{
		CLA: pick(0x00, 0x03, 0x80, 0x04, 0x97, 0x86, 0x12, 0x0e, 0x40, 0xfe), INS: pick(0xb0, 0xd6, 0xa4, 0xc0, 0x00, 0x5f, 0x70), P1: r.IntN(256), P2: r.IntN(256),
		Data: filled(pick(0, 0, 1, 2, 7, 255, r.IntN(256))), Le: pick(0, 1, 2, 7, 255, 256, r.IntN(257)),
	}
}

// randomAnswer returns bytes that a card may send to a command: mostly those that are expected.
func randomAnswer(r *rand.Rand, c api.Command) []byte {
	var b []byte
	for range r.IntN(6) {
		switch r.IntN(8) {
		case 0:
			b = append(b, 0x60)
		case 1, 2:
			b = append(b, byte(c.INS))
			if len(c.Data) == 0 {
				b = append(b, filled(1+(c.Le+255)%256)...)
			}
		case 3, 4, 5:
			n := r.IntN(256) >> r.IntN(8)
			b = append(b, 0x61, byte(n))
			if r.IntN(4) > 0 {
				b = append(append(b, 0xc0), filled(1+(n+255)%256)...)
			}
		case 6:
			b = append(b, byte(r.IntN(256)))
		}
	}
	return append(b, []byte{0x90, 0x6a, 0x6c, 0x62, 0x9f, 0x6f, 0x70, 0x8f, 0xa0}[r.IntN(9)], byte(r.IntN(256)), byte(c.INS), 0x60)
}

func TestTerminalModel(t *testing.T) {
	r := rand.New(rand.NewPCG(7, 2))
	ends := map[string]int{}
	for range 2000 {
		x := tzero.NewTerminal()
		for range 10 {
			c := randomCommand(r)
			b, e := x.Send(c)
			if e != api.OK || hex(b) != hex(headerOf(c)) {
				t.Fatal(show(c, true), hex(b), e)
			}
			var got, sent []byte
			compare(t, x, c, got, sent)
			for _, part := range split(r, randomAnswer(r, c)) {
				got = append(got, part...)
				sent = append(sent, x.Receive(part)...)
				compare(t, x, c, got, sent)
			}
			_, _, complete, failed := played(c, got)
			ends[fmt.Sprint(complete, failed)]++
			if !complete && !failed {
				if b, e := x.Send(c); e != api.ErrState || len(b) != 0 {
					t.Fatal(show(c, true), hex(b), e)
				}
				break
			}
		}
	}
	if ends["true false"] < 1000 || ends["false true"] < 1000 || ends["false false"] < 50 {
		t.Error(ends)
	}
}

func TestTerminalSend(t *testing.T) {
	for _, c := range []struct {
		c    api.Command
		want string
	}{
		{api.Command{CLA: 0x80, INS: 0xe8, P1: 1, P2: 2}, "80 e8 01 02 00"},
		{api.Command{INS: 0xb0, P1: 0xff, Le: 4}, "00 b0 ff 00 04"},
		{api.Command{INS: 0xb0, Le: 255}, "00 b0 00 00 ff"},
		{api.Command{INS: 0xb0, Le: 256}, "00 b0 00 00 00"},
		{api.Command{INS: 0xd6, P2: 9, Data: filled(1)}, "00 d6 00 09 01"},
		{api.Command{INS: 0xd6, Data: filled(255)}, "00 d6 00 00 ff"},
		{api.Command{INS: 0xa4, Data: filled(2), Le: 256}, "00 a4 00 00 02"},
		{api.Command{CLA: 0xfe, INS: 0xff, P1: 0xff, P2: 0xff, Data: filled(2), Le: 1}, "fe ff ff ff 02"},
	} {
		x := tzero.NewTerminal()
		if b, e := x.Send(c.c); e != api.OK || hex(b) != hex(raw(c.want)) {
			t.Error(show(c.c, true), hex(b), e)
		}
		if x.Failed() != api.OK || showResponse(x.Response()) != noResponse {
			t.Error(show(c.c, true), "is not in progress")
		}
	}
}

func TestTerminalSendErrors(t *testing.T) {
	mistakes := []struct {
		c api.Command
		e api.Errno
	}{
		{api.Command{CLA: -1}, api.ErrRange}, {api.Command{P2: 256, Long: true, Le: 5}, api.ErrRange}, {api.Command{CLA: 255}, api.ErrArg}, {api.Command{INS: 0x61}, api.ErrArg}, {api.Command{INS: 0x9f, Long: true, Le: 1}, api.ErrArg},
		{api.Command{Data: filled(256)}, api.ErrLong}, {api.Command{Long: true, Data: filled(65536)}, api.ErrLong}, {api.Command{Le: 257}, api.ErrRange}, {api.Command{Le: -1}, api.ErrRange}, {api.Command{Long: true}, api.ErrForm},
		{api.Command{Long: true, Le: 1}, api.ErrForm}, {api.Command{Long: true, Data: filled(1)}, api.ErrForm}, {api.Command{Long: true, Data: filled(300), Le: 65536}, api.ErrForm},
	}
	refuse := func(x *tzero.Terminal, response string, failed api.Errno) {
		t.Helper()
		for _, m := range mistakes {
			if b, e := x.Send(m.c); e != m.e || len(b) != 0 {
				t.Error(show(m.c, true), hex(b), e)
			}
			if got := showResponse(x.Response()); got != response || x.Failed() != failed {
				t.Error(show(m.c, true), got, x.Failed())
			}
		}
	}
	x := tzero.NewTerminal()
	refuse(x, noResponse, api.OK)
	x.Receive(raw("90 00")) // no command is in progress
	refuse(x, noResponse, api.OK)
	good := api.Command{INS: 0xb0, Le: 2}
	if _, e := x.Send(good); e != api.OK {
		t.Fatal(e)
	}
	refuse(x, noResponse, api.OK)
	for _, b := range []string{"", "60", "b0", "01", "02", "90"} { // in all phases
		x.Receive(raw(b))
		if b, e := x.Send(good); e != api.ErrState || len(b) != 0 {
			t.Error(hex(b), e)
		}
		refuse(x, noResponse, api.OK)
	}
	x.Receive(raw("00"))
	refuse(x, "true 36864 0102", api.OK)
	if _, e := x.Send(good); e != api.OK || showResponse(x.Response()) != noResponse {
		t.Error("a response remains", e)
	}
	x.Receive(raw("b1"))
	refuse(x, noResponse, api.ErrProtocol)
	if b, e := x.Send(good); e != api.OK || hex(b) != "00b0000002" || x.Failed() != api.OK {
		t.Error("a failure remains", hex(b), e, x.Failed())
	}
	x.Receive(raw("b0 03 04 62 82"))
	refuse(x, "true 25218 0304", api.OK)
}

func TestTerminalReceive(t *testing.T) {
	read, full, bare := api.Command{INS: 0xb0, Le: 2}, api.Command{CLA: 0x81, INS: 0xb0, Le: 256}, api.Command{INS: 0x44}
	write, both := api.Command{INS: 0xd6, Data: raw("0a0b")}, api.Command{CLA: 0x02, INS: 0xa4, Data: raw("0a0b"), Le: 3}
	secured := api.Command{CLA: 0x97, INS: 0xd6, Data: raw("0a0b"), Le: 1}
	const wrong = "failed"
	for _, s := range []struct {
		c                   api.Command
		receive, sent, want string
	}{
		// more time
		{read, "60 60 b0 01 60 60 60 90 00", "", "true 36864 0160"}, {read, "60", "", noResponse}, {write, "60 d6 60 60 90 00", "0a0b", "true 36864 "}, {read, "90 60", "", "true 36960 "},
		// status words
		{read, "90 00", "", "true 36864 "}, {read, "6a 82 90 00", "", "true 27266 "}, {read, "9f ff", "", "true 40959 "}, {read, "6f 00", "", "true 28416 "}, {read, "6c 02", "", "true 27650 "}, {read, "62 82", "", "true 25218 "}, {read, "90", "", noResponse},
		{write, "69 82", "", "true 27010 "}, {bare, "90 00", "", "true 36864 "},
		// data of the response
		{read, "b0 01 02 90 00", "", "true 36864 0102"}, {read, "b0 b0 61 90 00", "", "true 36864 b061"}, {read, "b0 01", "", noResponse}, {read, "b0 01 02", "", noResponse}, {read, "b0 01 02 62 82 61 05", "", "true 25218 0102"},
		{full, "b0 256* 90 00", "", "true 36864 " + hex(filled(256))}, {bare, "44 256* 90 00", "", "true 36864 "}, {bare, "44 255*", "", noResponse}, {bare, "44 255* 90 00", "", wrong},
		// data of the command
		{write, "d6", "0a0b", noResponse}, {write, "d6 90 00", "0a0b", "true 36864 "}, {both, "a4 67 00", "0a0b", "true 26368 "},
		// GET RESPONSE
		{write, "d6 61 02", "0a0b 00c0000002", noResponse}, {write, "d6 61 02 c0 01 02 90 00", "0a0b 00c0000002", "true 36864 "}, {both, "a4 61 02 c0 01 02 90 00", "0a0b 02c0000002", "true 36864 0102"},
		{both, "a4 61 00 c0 256* 90 00", "0a0b 02c0000000", "true 36864 " + part(256, 0, 3)}, {both, "a4 61 01 c0 07 61 01 60 c0 08 61 02 c0 09 0a 90 00", "0a0b 02c0000001 02c0000001 02c0000002", "true 36864 070809"},
		{read, "61 02 c0 01 02 90 00", "00c0000002", "true 36864 0102"}, {read, "b0 01 02 61 02 c0 03 04 90 00", "00c0000002", "true 36864 0102"}, {full, "61 01 90 00", "01c0000001", "true 36864 "}, {full, "61 01 6c 01", "01c0000001", "true 27649 "},
		{api.Command{CLA: 0x9f, INS: 0xb0, Le: 1}, "61 01", "00c0000001", noResponse}, {api.Command{CLA: 0x43, INS: 0xb0, Le: 1}, "61 01", "00c0000001", noResponse}, {api.Command{CLA: 0x93, INS: 0xb0, Le: 1}, "61 01", "03c0000001", noResponse},
		{read, "61 01 c0 05 61 00 60 c0 256* 6a 82", "00c0000001 00c0000000", "true 27266 05" + part(256, 0, 1)},
		// at most Le bytes, except of protected commands
		{secured, "d6 61 03 c0 01 02 03 90 00", "0a0b 03c0000003", "true 36864 010203"}, {api.Command{CLA: 0x04, INS: 0xb0}, "61 01 c0 01 90 00", "00c0000001", "true 36864 01"}, {api.Command{CLA: 0x44, INS: 0xb0}, "61 01 c0 01 90 00", "00c0000001", "true 36864 "},
		// failures
		{read, "00", "", wrong}, {read, "b1", "", wrong}, {read, "4f", "", wrong}, {read, "5f", "", wrong}, {read, "70", "", wrong}, {read, "8f", "", wrong}, {read, "a0", "", wrong}, {read, "ff", "", wrong}, {read, "c0", "", wrong}, {read, "60 00 90 00", "", wrong},
		{read, "b0 01 02 b0 01 02 90 00", "", wrong}, {write, "d6 d6 90 00", "0a0b", wrong}, {both, "a4 c0", "0a0b", wrong}, {write, "d6 61 02 d6", "0a0b 00c0000002", wrong}, {read, "61 02 b0", "00c0000002", wrong},
		{read, "61 01 c0 01 c0 01", "00c0000001", wrong}, {read, "b0 01 02 b0", "", wrong}, {bare, "44 256* 44", "", wrong},
		// a command whose instruction is that of GET RESPONSE
		{api.Command{INS: 0xc0, Data: raw("0a0b")}, "c0 61 01 c0 05 61 01 c0 06 90 00", "0a0b 00c0000001 00c0000001", "true 36864 "}, {api.Command{INS: 0xc0, Le: 2}, "c0 01 02 90 00", "", "true 36864 0102"}, {api.Command{INS: 0xc0, Data: raw("0a")}, "c0 c0", "0a", wrong},
	} {
		for size := 1; size < 300; size = size*4 + 1 {
			x := tzero.NewTerminal()
			if _, e := x.Send(s.c); e != api.OK {
				t.Fatal(s.receive, e)
			}
			var sent []byte
			for b := range slices.Chunk(raw(s.receive), size) {
				sent = append(sent, x.Receive(b)...)
			}
			want, failed := s.want, api.OK
			if want == wrong {
				want, failed = noResponse, api.ErrProtocol
			}
			for range 2 {
				if got := showResponse(x.Response()); got != want || hex(sent) != hex(raw(s.sent)) || x.Failed() != failed {
					t.Error(show(s.c, true), s.receive, got, hex(sent), x.Failed())
				}
				if want == noResponse && failed == api.OK {
					break
				}
				if more := x.Receive(raw("90 00 61 01 b0 00")); len(more) != 0 { // no command is in progress
					t.Error(show(s.c, true), s.receive, hex(more))
				}
			}
		}
	}
}

func TestTerminalWithoutCommand(t *testing.T) {
	x := tzero.NewTerminal()
	for _, b := range []string{"", "60", "90 00", "61 05", "00", "ff 01"} {
		if got := x.Receive(raw(b)); len(got) != 0 || showResponse(x.Response()) != noResponse || x.Failed() != api.OK {
			t.Error(b, hex(got), x.Failed())
		}
	}
	if b, e := x.Send(api.Command{INS: 0xb0, Le: 1}); e != api.OK || hex(b) != "00b0000001" {
		t.Error(hex(b), e)
	}
}

// TestProcedureBytes compares all procedure bytes, before and after the data.
func TestProcedureBytes(t *testing.T) {
	for _, c := range []api.Command{{INS: 0xb0, Le: 2}, {INS: 0xd6, Data: filled(2)}, {INS: 0x05}, {CLA: 0x84, INS: 0xc0, Data: filled(1), Le: 1}} {
		for first := range 256 {
			for second := range 256 {
				x := tzero.NewTerminal()
				if _, e := x.Send(c); e != api.OK {
					t.Fatal(e)
				}
				got := []byte{byte(first), byte(second), byte(first), 0x90, 0x00}
				compare(t, x, c, got, x.Receive(got))
			}
		}
	}
}
