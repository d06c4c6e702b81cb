// Package levels tells which bits the level of a session may have. It is no layer of its own: both the authentication and secure messaging need it.
package levels

import "smartcard/api"

// Valid reports whether a level is that of a session.
func Valid(level int) bool {
	switch level {
	case 0, api.LevelMac, api.LevelMac | api.LevelEnc, api.LevelMac | api.LevelRMac,
		api.LevelMac | api.LevelEnc | api.LevelRMac, api.LevelMac | api.LevelEnc | api.LevelRMac | api.LevelREnc:
		return true
	}
	return false
}
