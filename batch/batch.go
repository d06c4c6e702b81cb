// Package batch makes several changes of a vault happen together or not at all. It is no layer of its own: the layers use it whose functions make such changes.
package batch

import (
	"smartcard/api"
	"smartcard/vault"
)

// Do makes changes of a vault, all of them or none: within its transaction, if there is one, or else in one of their own.
func Do(v *vault.Vault, change func() api.Errno) api.Errno {
	if v.Active() {
		return within(v, change)
	}
	if e := v.Begin(); e != api.OK {
		return e
	}
	e := change()
	if e == api.OK {
		e = v.Commit()
	}
	if e != api.OK {
		v.Abort()
	}
	return e
}

// within makes changes within the transaction of a vault, and undoes those that were made before an error.
func within(v *vault.Vault, change func() api.Errno) api.Errno {
	mark := v.Save()
	e := change()
	if e != api.OK {
		v.Back(mark)
	}
	return e
}
