package secure

import (
	"bytes"

	"smartcard/apdu"
	"smartcard/api"
	"smartcard/mode"
	"smartcard/octets"
)

const sizeBytes = 3 // of each number in the header block

// wrap returns a protected command.
func (c *Channel) wrap(x api.Command) (api.Command, error) {
	class, err := c.class(x)
	switch {
	case err != nil:
		return api.Command{}, err
	case class.Secure:
		return api.Command{}, failure{api.ErrForm}
	case !c.has(api.LevelMac):
		x.Data = bytes.Clone(x.Data)
		return x, nil
	}
	body := c.encrypt(api.LevelEnc, c.commandStart(), x.Data)
	if len(body)+api.BlockBytes > api.MaxData-1 {
		return api.Command{}, failure{api.ErrLong}
	}
	class.Secure = true
	x.CLA, _ = apdu.Byte(class) // cannot fail, as the class byte has a meaning
	x.Data = octets.Join(body, c.commandMAC(x, body))
	x.Long = x.Long || len(x.Data) > api.MaxShort
	return x, nil
}

// unwrap returns the command that was protected.
func (c *Channel) unwrap(x api.Command) (api.Command, error) {
	class, err := c.class(x)
	switch {
	case err != nil:
		return api.Command{}, err
	case !c.has(api.LevelMac) && class.Secure:
		return api.Command{}, failure{api.ErrForm}
	case !c.has(api.LevelMac):
		x.Data = bytes.Clone(x.Data)
		return x, nil
	}
	body, mac, ok := parts(x.Data)
	switch {
	case !class.Secure || !ok:
		return api.Command{}, failure{api.ErrShort}
	case !bytes.Equal(mac, c.commandMAC(x, body)):
		return api.Command{}, failure{api.ErrWrong}
	}
	class.Secure = false
	x.CLA, _ = apdu.Byte(class)
	x.Data, err = c.decrypt(api.LevelEnc, c.commandStart(), body)
	if err != nil {
		return api.Command{}, err
	}
	return x, nil
}

// class returns the meaning of the class byte of a command with which both sides can go on.
func (c *Channel) class(x api.Command) (api.ClassInfo, error) {
	if c.closed {
		return api.ClassInfo{}, failure{api.ErrState}
	}
	if e := apdu.Check(x); e != api.OK {
		return api.ClassInfo{}, failure{e}
	}
	class, ok := apdu.Class(x.CLA)
	if !ok || class.Chained {
		return api.ClassInfo{}, failure{api.ErrForm}
	}
	return class, nil
}

// commandMAC returns the MAC of a command with the protected class byte, and with the given data before the MAC.
func (c *Channel) commandMAC(x api.Command, body []byte) []byte {
	n, _ := octets.Put(len(body)+api.BlockBytes, sizeBytes)
	le, _ := octets.Put(x.Le, sizeBytes)
	header := []byte{byte(x.CLA), byte(x.INS), byte(x.P1), byte(x.P2)}
	mac, _ := mode.MAC(c.session.Mac, c.mac, octets.Join(header, n, le, body))
	return mac
}
