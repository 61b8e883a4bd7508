package line

import "concord/api"

// enclose puts content between two flags, with escapes.
func enclose(content []byte) []byte {
	out := make([]byte, 0, 2*len(content)+2)
	out = append(out, api.Flag)
	for _, c := range content {
		if c == api.Flag || c == api.Escape {
			out = append(out, api.Escape, c^api.Turn)
		} else {
			out = append(out, c)
		}
	}
	return append(out, api.Flag)
}

// unescape takes the escapes away from what stood between two flags. It stops at the first byte that is too many, so that no input makes it keep more than a content.
func unescape(b []byte) ([]byte, error) {
	content := make([]byte, 0, maxContent)
	escaped := false
	for i, c := range b {
		if c == api.Flag {
			return nil, &FrameError{At: i, Why: ErrFlag}
		}
		if c == api.Escape && !escaped {
			escaped = true
			continue
		}
		if len(content) == maxContent {
			return nil, &FrameError{At: i, Why: ErrLong}
		}
		if escaped {
			c ^= api.Turn
			escaped = false
		}
		content = append(content, c)
	}
	if escaped {
		return nil, &FrameError{At: len(b), Why: ErrLoose}
	}
	if len(content) < minContent {
		return nil, &FrameError{At: len(b), Why: ErrShort}
	}
	return content, nil
}
