package key

import (
	"iter"
	"strings"

	"weir/api"
	"weir/fault"
)

// marks are the bytes that stand for themselves behind an escape alone.
const (
	marks  = `, =` + escape
	escape = `\`
)

// Escape writes a name or text as it stands in keys and lines.
func Escape(s string) string {
	var written strings.Builder
	for _, piece := range pieces(s) {
		if isMark(piece) {
			written.WriteString(escape)
		}
		written.WriteString(piece)
	}
	return written.String()
}

// Unescape reads one up to a bare comma, blank or equals sign; how many bytes it has.
func Unescape(s string) (string, int, error) {
	var said strings.Builder
	escaped := false
	for at, piece := range pieces(s) {
		switch {
		case escaped && !isMark(piece):
			return "", 0, fault.At(at-len(escape), api.ErrKey)
		case !escaped && piece == escape:
			escaped = true
			continue
		case !escaped && isMark(piece):
			return said.String(), at, nil
		}
		said.WriteString(piece)
		escaped = false
	}
	if escaped {
		return "", 0, fault.At(len(s)-len(escape), api.ErrKey)
	}
	return said.String(), len(s), nil
}

// pieces goes through a text, with the place of each piece: rows of bytes
// without marks, as long as can be, and each mark by itself.
func pieces(s string) iter.Seq2[int, string] {
	return func(yield func(int, string) bool) {
		for at := 0; at < len(s); {
			size := strings.IndexAny(s[at:], marks)
			switch size {
			case -1:
				size = len(s) - at
			case 0:
				size = 1
			}
			if !yield(at, s[at:at+size]) {
				return
			}
			at += size
		}
	}
}

func isMark(piece string) bool { return strings.ContainsAny(piece, marks) }
