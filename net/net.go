// Package net is numbers and texts as bytes: see DOC.md, chapter 1.
package net

import (
	"bytes"
	"strconv"
)

// longest is how many bytes a Num has at most ahead of its ';'.
const longest = 20

// Reader is bytes that are left.
type Reader struct{ rest []byte }

// Num is a number as bytes.
func Num(n int64) []byte {
	return append(strconv.AppendInt(nil, n, 10), ';')
}

// Text is a text as bytes.
func Text(s string) []byte {
	return append(Num(int64(len(s))), s...)
}

// New is a reader of bytes.
func New(b []byte) *Reader {
	// A copy, because the caller may write into b later.
	return &Reader{rest: bytes.Clone(b)}
}

// Num takes a number.
func (r *Reader) Num() (int64, bool) {
	if r == nil {
		return 0, false
	}
	n, size := firstNum(r.rest)
	if size == 0 {
		return 0, false
	}
	r.rest = r.rest[size:]
	return n, true
}

// Text takes a text.
func (r *Reader) Text() (string, bool) {
	if r == nil {
		return "", false
	}
	n, size := firstNum(r.rest)
	behind := r.rest[size:]
	if size == 0 || n < 0 || n > int64(len(behind)) {
		return "", false
	}
	r.rest = behind[n:]
	return string(behind[:n]), true
}

// Left is how many bytes are left.
func (r *Reader) Left() int {
	if r == nil {
		return 0
	}
	return len(r.rest)
}

// firstNum is the Num that b begins with, and how many bytes it has; 0 bytes: there is none.
func firstNum(b []byte) (n int64, size int) {
	end := bytes.IndexByte(b[:min(len(b), longest+1)], ';')
	if end < 0 {
		return 0, 0
	}
	n, err := strconv.ParseInt(string(b[:end]), 10, 64)
	// ParseInt reads "+1", "-0" and "01" too, which no Num is: so the bytes are held against those of n.
	if err != nil || !bytes.Equal(Num(n), b[:end+1]) {
		return 0, 0
	}
	return n, end + 1
}
