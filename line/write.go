package line

import (
	"strconv"
	"strings"

	"weir/api"
	"weir/key"
)

// plain tells whether a point has a line.
func plain(p api.Point) bool {
	if !wordly(p.Measure) || strings.HasPrefix(p.Measure, remark) || len(p.Fields) == 0 {
		return false
	}
	for _, t := range p.Tags {
		if !wordly(t.Key) || !wordly(t.Value) {
			return false
		}
	}
	for _, f := range p.Fields {
		if !wordly(f.Key) {
			return false
		}
	}
	return true
}

// wordly tells whether a name or text may stand in a line.
func wordly(s string) bool { return s != "" && !strings.Contains(s, lineFeed) }

// write is the line of a plain point.
func write(p api.Point) string {
	var written strings.Builder
	written.WriteString(key.Escape(p.Measure))
	for _, t := range p.Tags {
		written.WriteString("," + key.Escape(t.Key) + "=" + key.Escape(t.Value))
	}
	ahead := " "
	for _, f := range p.Fields {
		written.WriteString(ahead + key.Escape(f.Key) + "=" + strconv.FormatInt(f.N, 10) + kind)
		ahead = ","
	}
	written.WriteString(" " + strconv.FormatInt(p.Time, 10))
	return written.String()
}
