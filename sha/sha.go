// Package sha is layer 1: digests. See shared/doc/01-sha.md.
package sha

import (
	"bytes"

	"veneer/api"
)

const (
	blockLen = 64 // bytes of a block
	countLen = 8  // bytes of the count of bits, at the message's end
	padMark  = 128
	digits   = "0123456789abcdef"
)

// Hash takes bytes, piece by piece. It holds arrays alone, so that a copy of it has nothing in common with it.
type Hash struct {
	state [8]uint32
	block [blockLen]byte // of which the first total % blockLen bytes wait for the rest of their block
	total int64
}

// Sum: the digest of some bytes.
func Sum(b []byte) api.Digest {
	h := New()
	h.Write(b)
	return h.Sum()
}

// New: a hash of no bytes.
func New() *Hash {
	return &Hash{state: [8]uint32{
		0x6a09e667, 0xbb67ae85, 0x3c6ef372, 0xa54ff53a,
		0x510e527f, 0x9b05688c, 0x1f83d9ab, 0x5be0cd19,
	}}
}

// Write: more bytes.
func (h *Hash) Write(b []byte) {
	if h == nil {
		return
	}
	filled := int(h.total % blockLen)
	h.total += int64(len(b))
	for len(b) > 0 {
		n := copy(h.block[filled:], b)
		b = b[n:]
		filled += n
		if filled == blockLen {
			h.state = mix(h.state, h.block)
			filled = 0
		}
	}
}

// Sum: the digest of all bytes so far.
func (h *Hash) Sum() api.Digest {
	if h == nil {
		return Sum(nil)
	}
	// The end of the message goes into a copy: more may be written into h.
	last := *h
	last.Write(ending(h.total))
	return digestOf(last.state)
}

// Len: how many bytes so far.
func (h *Hash) Len() int64 {
	if h == nil {
		return 0
	}
	return h.total
}

// ending: what comes behind so many bytes to make the whole message.
func ending(total int64) []byte {
	zeros := (2*blockLen - countLen - 1 - int(total%blockLen)) % blockLen
	end := make([]byte, 1+zeros+countLen)
	end[0] = padMark
	count := uint64(total) * 8
	for i := range countLen {
		end[len(end)-1-i] = byte(count >> (8 * i))
	}
	return end
}

// digestOf: the bytes of a state's words.
func digestOf(state [8]uint32) api.Digest {
	var d api.Digest
	for i, w := range state {
		d[4*i] = byte(w >> 24)
		d[4*i+1] = byte(w >> 16)
		d[4*i+2] = byte(w >> 8)
		d[4*i+3] = byte(w)
	}
	return d
}

// Hex: a digest as digits.
func Hex(d api.Digest) string {
	out := make([]byte, 0, 2*len(d))
	for _, b := range d {
		out = append(out, digits[b>>4], digits[b&15])
	}
	return string(out)
}

// Unhex: the digest that digits mean. ErrForm.
func Unhex(s string) (api.Digest, api.Errno) {
	var d api.Digest
	if len(s) != 2*len(d) {
		return api.Digest{}, api.ErrForm
	}
	for i := range d {
		high, okHigh := value(s[2*i])
		low, okLow := value(s[2*i+1])
		if !okHigh || !okLow {
			return api.Digest{}, api.ErrForm
		}
		d[i] = high<<4 | low
	}
	return d, api.OK
}

// value: what a digit means; false: it is none.
func value(c byte) (byte, bool) {
	switch {
	case '0' <= c && c <= '9':
		return c - '0', true
	case 'a' <= c && c <= 'f':
		return c - 'a' + 10, true
	}
	return 0, false
}

// Compare: which digest is the lesser one.
func Compare(a, b api.Digest) int { return bytes.Compare(a[:], b[:]) }
