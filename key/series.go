package key

import (
	"strings"

	"weir/api"
	"weir/fault"
)

// Print is a series' key.
func Print(s api.Series) string {
	if Right(s) != nil {
		return ""
	}
	var written strings.Builder
	written.WriteString(Escape(s.Measure))
	for _, t := range s.Tags {
		written.WriteString("," + Escape(t.Key) + "=" + Escape(t.Value))
	}
	written.WriteString(" " + Escape(s.Field))
	return written.String()
}

// Parse reads one.
func Parse(s string) (api.Series, error) {
	r := reader{text: s}
	read := api.Series{Measure: r.word()}
	for r.follows(",") {
		name := r.word()
		r.must("=")
		read.Tags = append(read.Tags, api.Tag{Key: name, Value: r.word()})
	}
	r.must(" ")
	read.Field = r.word()
	r.end()
	if r.fault == nil {
		r.fault = Right(read)
	}
	if r.fault != nil {
		return api.Series{}, r.fault
	}
	return read, nil
}

// reader goes through a key, up to its first fault: behind that it reads nothing more.
type reader struct {
	text  string
	at    int
	fault error
}

// word reads a name or text.
func (r *reader) word() string {
	if r.fault != nil {
		return ""
	}
	said, size, err := Unescape(r.text[r.at:])
	if err != nil {
		place, _ := fault.Place(err)
		r.fail(r.at + place)
	}
	r.at += size
	return said
}

// follows passes a mark, if it stands here.
func (r *reader) follows(mark string) bool {
	there := r.fault == nil && strings.HasPrefix(r.text[r.at:], mark)
	if there {
		r.at += len(mark)
	}
	return there
}

// must passes a mark that has to stand here.
func (r *reader) must(mark string) {
	if !r.follows(mark) {
		r.fail(r.at)
	}
}

func (r *reader) end() {
	if r.at < len(r.text) {
		r.fail(r.at)
	}
}

func (r *reader) fail(place int) {
	if r.fault == nil {
		r.fault = fault.At(place, api.ErrKey)
	}
}
