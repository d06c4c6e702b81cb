package secure

import (
	"bytes"

	"smartcard/api"
	"smartcard/mode"
	"smartcard/octets"
)

const responseMark = 0x80 // the first byte of the number from which the initial value for responses is made

// parts divides protected data into what is before the MAC and the MAC; false if they are too short.
func parts(data []byte) (body, mac []byte, ok bool) {
	n := len(data) - api.BlockBytes
	if n < 0 {
		return nil, nil, false
	}
	return bytes.Clone(data[:n]), bytes.Clone(data[n:]), true
}

// commandStart returns the initial value for the next command.
func (c *Channel) commandStart() []byte { return c.start(c.count+1, 0) }

// responseStart returns the initial value for the response to the last command.
func (c *Channel) responseStart() []byte { return c.start(c.count, responseMark) }

// start returns the initial value for a counter whose first byte is replaced. (The counter never reaches it.)
func (c *Channel) start(count int, first byte) []byte {
	number, _ := octets.Put(count, api.BlockBytes)
	number[0] = first
	iv, _ := mode.EncryptCBC(c.session.Enc, make([]byte, api.BlockBytes), number) // cannot fail, as all lengths are right
	return iv
}

// encrypt returns encrypted data if the level has a bit, otherwise the data themselves. No data stay no data.
func (c *Channel) encrypt(bit int, iv, data []byte) []byte {
	if !c.has(bit) || len(data) == 0 {
		return data
	}
	padded, _ := octets.Pad(data, api.BlockBytes)
	secret, _ := mode.EncryptCBC(c.session.Enc, iv, padded)
	return secret
}

// decrypt returns the data that encrypt was given.
func (c *Channel) decrypt(bit int, iv, data []byte) ([]byte, error) {
	if !c.has(bit) || len(data) == 0 {
		return data, nil
	}
	padded, _ := mode.DecryptCBC(c.session.Enc, iv, data) // nothing if a block is not whole; Unpad rejects that, too
	plain, e := octets.Unpad(padded)
	if e != api.OK {
		return nil, failure{api.ErrForm}
	}
	return plain, nil
}
