package auth

import (
	"bytes"

	"smartcard/api"
	"smartcard/levels"
	"smartcard/octets"
)

// Host is the terminal's side.
type Host struct {
	challenges
	keys []api.Key
	s    api.Session // the session, and the MAC of the authentication, which is empty without one
	mac  []byte
}

// NewHost returns the terminal's side, given the keys of one set.
func NewHost(l []api.Key) *Host {
	if !complete(l) {
		return nil
	}
	h := &Host{}
	for _, kind := range sessionKinds() {
		h.keys = append(h.keys, api.Key{Kind: kind, Value: bytes.Clone(value(l, kind))})
	}
	return h
}

// made reports whether NewHost has returned this side.
func (h *Host) made() bool { return h != nil && len(h.keys) > 0 }

// Begin begins an authentication with a challenge.
func (h *Host) Begin(challenge []byte) api.Errno {
	switch {
	case !h.made():
		return api.ErrNil
	case !isChallenge(challenge):
		return api.ErrArg
	}
	h.s, h.mac = api.Session{}, nil
	h.host = bytes.Clone(challenge)
	return api.OK
}

// Finish examines the card's response, and returns the data for EXTERNAL AUTHENTICATE.
func (h *Host) Finish(response []byte, level int) ([]byte, api.Errno) {
	switch {
	case !h.made():
		return nil, api.ErrNil
	case !levels.Valid(level):
		return nil, api.ErrArg
	case !h.active():
		return nil, api.ErrState
	}
	defer h.forget()
	count, e := read(response)
	if e != api.OK {
		return nil, e
	}
	s, e := h.examine(response, count, level)
	if e != api.OK {
		return nil, e
	}
	proof, mac := h.answer(s)
	h.s, h.mac = s, mac
	return octets.Join(proof, mac), api.OK
}

// read returns the sequence counter in a card's response.
func read(response []byte) (int, api.Errno) {
	if len(response) != responseBytes || response[0] < 1 || response[0] > api.MaxSets {
		return 0, api.ErrForm
	}
	count, _ := octets.Get(response[1 : 1+countBytes])
	if !isCount(count) {
		return 0, api.ErrForm
	}
	return count, api.OK
}

// examine compares the challenge and the cryptogram in a card's response with the right ones, and returns the session.
func (h *Host) examine(response []byte, count, level int) (api.Session, api.Errno) {
	h.card, _ = Challenge(value(h.keys, api.KeyMac), count) // cannot fail, as the keys are complete
	s := h.session(h.keys, count, level)
	if !bytes.Equal(response[1+countBytes:], octets.Join(h.card, h.proof(s, ofCard))) {
		return api.Session{}, api.ErrWrong
	}
	return s, api.OK
}

// Session returns the session and the MAC, after Finish.
func (h *Host) Session() (api.Session, []byte, bool) {
	if !h.made() || len(h.mac) == 0 {
		return api.Session{}, nil, false
	}
	s := api.Session{Enc: bytes.Clone(h.s.Enc), Mac: bytes.Clone(h.s.Mac), RMac: bytes.Clone(h.s.RMac), Data: bytes.Clone(h.s.Data), Level: h.s.Level}
	return s, bytes.Clone(h.mac), true
}
