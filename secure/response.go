package secure

import (
	"bytes"

	"smartcard/api"
	"smartcard/mode"
	"smartcard/octets"
)

const (
	maxStatus   = 0xffff
	statusBytes = 2
)

// seal returns a protected response.
func (c *Channel) seal(r api.Response) (api.Response, error) {
	if err := c.check(r); err != nil {
		return api.Response{}, err
	}
	if len(r.Data) > api.MaxData {
		return api.Response{}, failure{api.ErrLong}
	}
	if !c.has(api.LevelRMac) {
		return api.Response{Data: bytes.Clone(r.Data), SW: r.SW}, nil
	}
	body := c.encrypt(api.LevelREnc, c.responseStart(), r.Data)
	if len(body)+api.BlockBytes > api.MaxData {
		return api.Response{}, failure{api.ErrLong}
	}
	return api.Response{Data: octets.Join(body, c.responseMAC(r.SW, body)), SW: r.SW}, nil
}

// open returns the response that was protected.
func (c *Channel) open(r api.Response) (api.Response, error) {
	if err := c.check(r); err != nil {
		return api.Response{}, err
	}
	if !c.has(api.LevelRMac) {
		return api.Response{Data: bytes.Clone(r.Data), SW: r.SW}, nil
	}
	body, mac, ok := parts(r.Data)
	switch {
	case !ok:
		return api.Response{}, failure{api.ErrShort}
	case !bytes.Equal(mac, c.responseMAC(r.SW, body)):
		return api.Response{}, failure{api.ErrWrong}
	}
	data, err := c.decrypt(api.LevelREnc, c.responseStart(), body)
	if err != nil {
		return api.Response{}, err
	}
	return api.Response{Data: data, SW: r.SW}, nil
}

// check returns why there can be no response with which both sides can go on.
func (c *Channel) check(r api.Response) error {
	switch {
	case !c.expects: // a closed side does not expect one, either
		return failure{api.ErrState}
	case r.SW < 0 || r.SW > maxStatus:
		return failure{api.ErrArg}
	}
	return nil
}

// responseMAC returns the MAC of a response with the given data before the MAC.
func (c *Channel) responseMAC(sw int, body []byte) []byte {
	status, _ := octets.Put(sw, statusBytes)
	mac, _ := mode.MAC(c.session.RMac, c.mac, octets.Join(body, status))
	return mac
}
