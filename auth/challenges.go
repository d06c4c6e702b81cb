package auth

import (
	"smartcard/api"
	"smartcard/mode"
	"smartcard/octets"
)

// challenges are those of an authentication that is in progress; without one, there is no challenge of the host.
type challenges struct {
	host, card []byte
}

// forget ends an authentication.
func (x *challenges) forget() { *x = challenges{} }

// active reports whether an authentication is in progress.
func (x *challenges) active() bool { return isChallenge(x.host) }

// session returns the session of the challenges. All that is given is valid, as the caller has examined it.
func (x *challenges) session(l []api.Key, count, level int) api.Session {
	s, _ := Session(l, count, x.host, x.card, level)
	return s
}

// proof returns a cryptogram.
func (x *challenges) proof(s api.Session, who int) []byte {
	b, _ := Proof(s, who, x.host, x.card)
	return b
}

// answer returns what the host sends at the end: its cryptogram, and the MAC of the authentication, which also proves the level.
func (x *challenges) answer(s api.Session) (proof, mac []byte) {
	proof = x.proof(s, ofHost)
	mac, _ = mode.MAC(s.Mac, zeros(), octets.Join([]byte{0x84, 0x82, byte(s.Level), 0, answerBytes}, proof))
	return proof, mac
}
