// Package crc is layer 1: sums of bytes (CRC-32), see shared/doc/01-crc.md.
package crc

import (
	"tessera/api"
)

const (
	feedback = 0xedb88320 // what is laid over the register when a 1 falls out of it
	digits   = "0123456789abcdef"
	width    = 8 // digits of a sum's text
)

// Of is the sum of the bytes.
func Of(s string) uint32 { return More(0, s) }

// More is the sum of s behind the bytes of which sum is the sum.
func More(sum uint32, s string) uint32 {
	register := ^sum
	for i := range len(s) {
		register = turn(register ^ uint32(s[i]))
	}
	return ^register
}

// Noughts is the sum of n bytes 0 behind the bytes of which sum is the sum.
func Noughts(sum uint32, n int) uint32 { return ^behind(^sum, n) }

// Join is the sum of some bytes, with n others behind them, by the sums of both.
// The register is linear in what it began as, so the turned bits of both sums
// cancel out and a alone has to go over the n places.
func Join(a, b uint32, n int) uint32 { return behind(a, n) ^ b }

// Text is the sum as eight hexadecimal digits.
func Text(sum uint32) string {
	var out [width]byte
	for i := range width {
		out[width-1-i] = digits[sum>>(4*i)&15]
	}
	return string(out[:])
}

// Read is the sum of which s is the text. Each sum has one text only, so capital
// letters, signs and other lengths are none.
func Read(s string) (uint32, api.Errno) {
	if len(s) != width {
		return 0, api.ErrArg
	}
	var sum uint32
	for i := range width {
		d, ok := digit(s[i])
		if !ok {
			return 0, api.ErrArg
		}
		sum = sum<<4 | d
	}
	return sum, api.OK
}

func digit(c byte) (uint32, bool) {
	switch {
	case '0' <= c && c <= '9':
		return uint32(c - '0'), true
	case 'a' <= c && c <= 'f':
		return uint32(c-'a') + 10, true
	}
	return 0, false
}

// turn moves the register by the eight bits of one byte.
func turn(register uint32) uint32 {
	for range 8 {
		out := register & 1
		register >>= 1
		if out == 1 {
			register ^= feedback
		}
	}
	return register
}
