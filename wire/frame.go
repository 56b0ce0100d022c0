package wire

import (
	"bytes"
	"slices"

	"veneer/api"
)

const (
	wordLen  = 4          // bytes of a frame's length, and of its check sum
	checkFor = 0xedb88320 // what is laid over where a set bit went
)

// Check: the check sum of parts, one behind the other.
func Check(parts ...[]byte) uint32 {
	sum := ^uint32(0)
	for _, part := range parts {
		for _, b := range part {
			sum = shiftedByByte(sum ^ uint32(b))
		}
	}
	return ^sum
}

// shiftedByByte: a check sum that is under way, once its lowest eight bits have gone.
func shiftedByByte(sum uint32) uint32 {
	for range 8 {
		gone := sum & 1
		sum >>= 1
		if gone == 1 {
			sum ^= checkFor
		}
	}
	return sum
}

// word: a number in four bytes.
func word(n uint32) []byte {
	return []byte{byte(n), byte(n >> 8), byte(n >> 16), byte(n >> 24)}
}

// valueOf: the number that the first four bytes mean.
func valueOf(b []byte) uint32 {
	return uint32(b[0]) | uint32(b[1])<<8 | uint32(b[2])<<16 | uint32(b[3])<<24
}

// Frame: a payload with its length and its check sum. ErrLong.
func Frame(payload []byte) ([]byte, api.Errno) {
	if len(payload) > api.MaxFrame {
		return nil, api.ErrLong
	}
	length := word(uint32(len(payload)))
	return slices.Concat(length, payload, word(Check(length, payload))), api.OK
}

// Next: the payload of the frame at the beginning, and how many bytes it has. ErrShort, ErrLong, ErrSum.
func Next(b []byte) ([]byte, int, api.Errno) {
	if len(b) < wordLen {
		return nil, 0, api.ErrShort
	}
	length := valueOf(b)
	if length > api.MaxFrame {
		return nil, 0, api.ErrLong
	}
	summed := wordLen + int(length)
	if len(b) < summed+wordLen {
		return nil, 0, api.ErrShort
	}
	if Check(b[:summed]) != valueOf(b[summed:]) {
		return nil, 0, api.ErrSum
	}
	return bytes.Clone(b[wordLen:summed]), summed + wordLen, api.OK
}

// Scan: the payloads of the frames at the beginning, and how many bytes they have.
func Scan(b []byte) ([][]byte, int) {
	var payloads [][]byte
	passed := 0
	for {
		payload, n, e := Next(b[passed:])
		if e != api.OK {
			return payloads, passed
		}
		payloads = append(payloads, payload)
		passed += n
	}
}
