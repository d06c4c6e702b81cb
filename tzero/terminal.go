package tzero

import (
	"bytes"

	"smartcard/apdu"
	"smartcard/api"
)

// How far the terminal's last command is.
const (
	unsent = iota // there is none yet
	busy
	complete
	failed
)

// Terminal is the terminal's side.
type Terminal struct {
	phase    phase // nil only if NewTerminal has not returned this side
	state    int
	command  api.Command
	sent     header // the header that was sent last: that of the command, or a GET RESPONSE
	asking   bool   // it is a GET RESPONSE
	moved    bool   // the data for it were sent or received
	left     int    // data bytes that are still to come
	first    byte   // the first byte of a status word
	response api.Response
}

// NewTerminal returns the terminal's side.
func NewTerminal() *Terminal {
	t := &Terminal{}
	t.phase = t.ignore
	return t
}

// made reports whether NewTerminal has returned this side.
func (t *Terminal) made() bool { return t != nil && t.phase != nil }

// Send begins a command, and returns the bytes that the terminal sends.
func (t *Terminal) Send(c api.Command) ([]byte, api.Errno) {
	if !t.made() {
		return nil, api.ErrNil
	}
	if e := apdu.Check(c); e != api.OK {
		return nil, e
	}
	switch {
	case c.Long:
		return nil, api.ErrForm
	case t.state == busy:
		return nil, api.ErrState
	}
	c.Data = bytes.Clone(c.Data)
	*t = Terminal{state: busy, command: c}
	return t.sendHeader(header{byte(c.CLA), byte(c.INS), byte(c.P1), byte(c.P2), lengthByte(c)}), api.OK
}

// lengthByte returns P3 of a command; 00 also stands for 256 expected bytes.
func lengthByte(c api.Command) byte {
	if len(c.Data) > 0 {
		return byte(len(c.Data))
	}
	return byte(c.Le)
}

// sendHeader sends a header, after which a procedure byte is expected.
func (t *Terminal) sendHeader(h header) []byte {
	t.sent = h
	t.moved = false
	t.phase = t.readProcedure
	return h.bytes()
}

// Receive receives bytes, and returns the bytes that the terminal sends at once.
func (t *Terminal) Receive(b []byte) []byte {
	if !t.made() {
		return nil
	}
	return process(&t.phase, b)
}

// ignore is the phase without a command in progress.
func (t *Terminal) ignore(byte) []byte { return nil }

// end ends the command.
func (t *Terminal) end(state int) {
	t.state = state
	t.phase = t.ignore
}

// readProcedure is the phase in which a procedure byte is expected.
func (t *Terminal) readProcedure(x byte) []byte {
	switch {
	case x == moreTime:
	case x == t.sent.ins && !t.moved:
		return t.moveData()
	case beginsStatus(x):
		t.first = x
		t.phase = t.readStatus
	default:
		t.end(failed)
	}
	return nil
}

// beginsStatus reports whether a byte, which is not the one that asks for more time, begins a status word.
func beginsStatus(x byte) bool { return x>>4 == 6 || x>>4 == 9 }

// moveData sends the data of the command, or expects data of the response, after an acknowledgement.
func (t *Terminal) moveData() []byte {
	t.moved = true
	if !t.asking && len(t.command.Data) > 0 {
		return t.command.Data
	}
	t.left = t.sent.count()
	t.phase = t.readData
	return nil
}

// readData is the phase in which data of the response come.
func (t *Terminal) readData(x byte) []byte {
	t.response.Data = append(t.response.Data, x)
	t.left--
	if t.left == 0 {
		t.phase = t.readProcedure
	}
	return nil
}

// readStatus is the phase in which the second byte of a status word is expected.
func (t *Terminal) readStatus(x byte) []byte {
	sw := int(t.first)<<8 | int(x)
	if sw&0xff00 == api.SWMore {
		t.asking = true
		return t.sendHeader(header{cla: t.channelByte(), ins: getResponse, p3: x})
	}
	t.response.SW = sw
	if !isSecure(t.command.CLA) && len(t.response.Data) > t.command.Le {
		t.response.Data = t.response.Data[:t.command.Le]
	}
	t.end(complete)
	return nil
}

// channelByte returns the class byte with the channel of the command, and nothing else.
func (t *Terminal) channelByte() byte {
	class, _ := apdu.Class(t.command.CLA)
	cla, _ := apdu.Byte(api.ClassInfo{Channel: class.Channel})
	return byte(cla)
}

// Response returns the response, once it is complete.
func (t *Terminal) Response() (api.Response, bool) {
	if !t.made() || t.state != complete {
		return api.Response{}, false
	}
	return api.Response{Data: bytes.Clone(t.response.Data), SW: t.response.SW}, true
}

// Failed returns the error because of which the command has no response.
func (t *Terminal) Failed() api.Errno {
	switch {
	case !t.made():
		return api.ErrNil
	case t.state == failed:
		return api.ErrProtocol
	}
	return api.OK
}
