package line

import (
	"errors"
	"strconv"
)

// What may be wrong with bytes from the line. The first four are met while the escapes are taken away, and come in a FrameError; the others in a ContentError.
var (
	ErrFlag  = errors.New("a flag among the bytes")
	ErrLoose = errors.New("an escape that escapes nothing")
	ErrShort = errors.New("too few bytes")
	ErrLong  = errors.New("too many bytes")
	ErrSum   = errors.New("the sum is another one")
	ErrCode  = errors.New("the code is 0")
)

// FrameError is what was met in bytes that are no frame. It is a type of its own since who asks needs to know that it was the frame, seldom which of the four.
type FrameError struct {
	At  int // bytes that were good ahead of it
	Why error
}

func (e *FrameError) Error() string {
	return "frame, behind " + strconv.Itoa(e.At) + " bytes: " + e.Why.Error()
}

func (e *FrameError) Unwrap() error { return e.Why }

// ContentError is what was met in the content of a frame that is none of a packet.
type ContentError struct {
	Size int // bytes of the content
	Why  error
}

func (e *ContentError) Error() string {
	return "content of " + strconv.Itoa(e.Size) + " bytes: " + e.Why.Error()
}

func (e *ContentError) Unwrap() error { return e.Why }
