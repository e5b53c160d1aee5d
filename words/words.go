// Package words is layer 1: see shared/doc/01-words.md.
package words

import (
	"adit/api"
)

// Load32 is four bytes' number.
func Load32(b []byte, at int) (uint32, api.Errno) {
	v, e := little(b, at, 4)
	return uint32(v), e
}

// Load64 is eight bytes' number.
func Load64(b []byte, at int) (uint64, api.Errno) {
	return little(b, at, 8)
}

// Big is bytes' number, the greatest first.
func Big(b []byte, at, size int) (uint64, api.Errno) {
	if !fits(size) {
		return 0, api.ErrArg
	}
	if e := lacks(b, at, size); e != api.OK {
		return 0, e
	}
	v := uint64(0)
	for i := range size {
		v = v<<8 | uint64(b[at+i])
	}
	return v, api.OK
}

// Put32 is a number's four bytes.
func Put32(v uint32) [4]byte {
	var out [4]byte
	for i := range 4 {
		out[i] = byte(v >> (8 * i))
	}
	return out
}

// Put64 is a number's eight bytes.
func Put64(v uint64) [8]byte {
	var out [8]byte
	for i := range 8 {
		out[i] = byte(v >> (8 * i))
	}
	return out
}

// PutBig is a number's bytes, the greatest first.
func PutBig(v uint64, size int) ([]byte, api.Errno) {
	if !fits(size) {
		return nil, api.ErrArg
	}
	// A shift by 64 leaves nothing, so that eight bytes hold every number.
	if v>>(8*size) != 0 {
		return nil, api.ErrLong
	}
	out := make([]byte, size)
	for i := range size {
		out[size-1-i] = byte(v >> (8 * i))
	}
	return out, api.OK
}

// Rotate turns a number's digits.
func Rotate(v uint32, n int) uint32 {
	// The last five digits of n are n modulo 32 below 0 too: down by 1 is up by 31.
	up := n & 31
	return v<<up | v>>(32-up)
}

// Equal tells whether bytes are the same, looking at all of them.
func Equal(a, b []byte) bool {
	if len(a) != len(b) {
		return false
	}
	// Marks are compared by this: how soon it ends must not tell where they differ.
	unlike := byte(0)
	for i := range len(a) {
		unlike |= a[i] ^ b[i]
	}
	return unlike == 0
}

// Hex is bytes' digits.
func Hex(b []byte) string {
	const digits = "0123456789abcdef"
	out := make([]byte, 2*len(b))
	for i := range len(b) {
		out[2*i] = digits[b[i]>>4]
		out[2*i+1] = digits[b[i]&15]
	}
	return string(out)
}

// Unhex is digits' bytes.
func Unhex(s string) ([]byte, api.Fault) {
	if len(s) > 2*api.MaxText {
		return nil, api.Fault{At: 0, Code: api.ErrLong}
	}
	out := make([]byte, len(s)/2)
	fault := api.Fault{}
read:
	for i := range len(s) {
		v, ok := digit(s[i])
		switch {
		case !ok:
			fault = api.Fault{At: i, Code: api.ErrByte}
			break read
		case i%2 == 0 && i == len(s)-1:
			fault = api.Fault{At: len(s), Code: api.ErrShort}
			break read
		}
		out[i/2] = out[i/2]<<4 | v
	}
	if fault.Code != api.OK {
		return nil, fault
	}
	return out, api.Fault{}
}

// little is the number of size bytes from at on, the least first.
func little(b []byte, at, size int) (uint64, api.Errno) {
	if e := lacks(b, at, size); e != api.OK {
		return 0, e
	}
	v := uint64(0)
	for i := range size {
		v |= uint64(b[at+i]) << (8 * i)
	}
	return v, api.OK
}

// lacks is what is wrong with reading size bytes from at on.
func lacks(b []byte, at, size int) api.Errno {
	if at < 0 {
		return api.ErrArg
	}
	// The size is taken off the length, since a sum of at and size could leave its type.
	if at > len(b)-size {
		return api.ErrShort
	}
	return api.OK
}

// fits tells whether a number may have so many bytes.
func fits(size int) bool { return size >= 1 && size <= 8 }

// digit is a digit's number.
func digit(c byte) (byte, bool) {
	switch {
	case c >= '0' && c <= '9':
		return c - '0', true
	case c >= 'a' && c <= 'f':
		return c - 'a' + 10, true
	case c >= 'A' && c <= 'F':
		return c - 'A' + 10, true
	}
	return 0, false
}
