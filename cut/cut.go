// Package cut: texts, and what they are cut into (chapter 1).
package cut

import (
	"bytes"
	"iter"
	"slices"
	"strings"
)

// marks are what a token may have beside letters and digits.
const marks = "!#$%&'*+-.^_`|~"

// Lines: the pieces between line feeds.
func Lines(t []byte) iter.Seq[[]byte] {
	kept := bytes.Clone(t) // what was handed in may change before it is gone through
	return func(yield func([]byte) bool) {
		for from, to := range spans(kept, isByte('\n')) {
			if from == len(kept) { // only the last piece can begin there, and it has no bytes
				return
			}
			if !yield(bytes.Clone(withoutReturn(kept[from:to]))) {
				return
			}
		}
	}
}

// Split: the pieces between bytes.
func Split(t []byte, by byte) iter.Seq2[int, []byte] {
	kept := bytes.Clone(t)
	return func(yield func(int, []byte) bool) {
		i := 0
		for from, to := range spans(kept, isByte(by)) {
			if !yield(i, bytes.Clone(kept[from:to])) {
				return
			}
			i++
		}
	}
}

// Fields: the longest pieces without blanks.
func Fields(t []byte) iter.Seq[[]byte] {
	kept := bytes.Clone(t)
	return func(yield func([]byte) bool) {
		for from, to := range spans(kept, isBlank) {
			if from < to && !yield(bytes.Clone(kept[from:to])) {
				return
			}
		}
	}
}

// Trim: without the blanks at both ends.
func Trim(t []byte) []byte {
	from, to := 0, len(t)
	for from < to && isBlank(t[from]) {
		from++
	}
	for from < to && isBlank(t[to-1]) {
		to--
	}
	return bytes.Clone(t[from:to])
}

// At: what is ahead of the first b, and behind it.
func At(t []byte, b byte) (before, after []byte, found bool) {
	i := bytes.IndexByte(t, b)
	if i < 0 {
		return bytes.Clone(t), nil, false
	}
	return bytes.Clone(t[:i]), bytes.Clone(t[i+1:]), true
}

// Lower: with small letters.
func Lower(t []byte) []byte {
	small := make([]byte, len(t))
	for i, b := range t {
		small[i] = lowerByte(b)
	}
	return small
}

// Same: the same but for great and small letters?
func Same(a, b []byte) bool {
	return slices.EqualFunc(a, b, func(x, y byte) bool { return lowerByte(x) == lowerByte(y) })
}

// Token: is it one?
func Token(t []byte) bool {
	for _, b := range t {
		if !isTokenByte(b) {
			return false
		}
	}
	return len(t) > 0
}

// Number: the number that digits write.
func Number(t []byte, most int) (int, bool) {
	if len(t) == 0 || len(t) > 1 && t[0] == '0' {
		return 0, false
	}
	n := 0
	for _, b := range t {
		digit := int(b) - '0'
		// Held against most ahead of reckoning: n*10 + digit may be more than an int has room for.
		if !isDigit(b) || digit > most || n > (most-digit)/10 {
			return 0, false
		}
		n = n*10 + digit
	}
	return n, true
}

// spans tells where each piece between the bytes that part begins and ends; bounds, not pieces, so that only what is told on is copied.
func spans(t []byte, parts func(byte) bool) iter.Seq2[int, int] {
	return func(yield func(int, int) bool) {
		from := 0
		for i, b := range t {
			if !parts(b) {
				continue
			}
			if !yield(from, i) {
				return
			}
			from = i + 1
		}
		yield(from, len(t))
	}
}

func isByte(by byte) func(byte) bool {
	return func(b byte) bool { return b == by }
}

// withoutReturn takes one carriage return away, not all: the others belong to the piece.
func withoutReturn(line []byte) []byte {
	return bytes.TrimSuffix(line, []byte{'\r'})
}

func isBlank(b byte) bool {
	return b == ' ' || b == '\t'
}

func isDigit(b byte) bool {
	return '0' <= b && b <= '9'
}

func isTokenByte(b byte) bool {
	small := lowerByte(b)
	return 'a' <= small && small <= 'z' || isDigit(b) || strings.IndexByte(marks, b) >= 0
}

func lowerByte(b byte) byte {
	if 'A' <= b && b <= 'Z' {
		return b + ('a' - 'A')
	}
	return b
}
