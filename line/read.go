package line

import (
	"strconv"
	"strings"

	"weir/api"
	"weir/fault"
	"weir/key"
)

// givenUp is the error with which the reading of a line ends early: a type by
// itself, so that no other panic is taken for it.
type givenUp struct{ error }

func giveUp(place int) { panic(givenUp{fault.At(place, api.ErrLine)}) }

// read is the point that a line tells; where it tells none it is given up.
func read(s string) api.Point {
	if place := strings.Index(s, lineFeed); place >= 0 {
		giveUp(place)
	}
	if strings.HasPrefix(s, remark) {
		giveUp(0)
	}
	r := reader{text: s}
	p := api.Point{Measure: r.word()}
	for r.follows(",") {
		p.Tags = append(p.Tags, r.tag())
	}
	r.must(" ")
	p.Fields = append(p.Fields, r.field())
	for r.follows(",") {
		p.Fields = append(p.Fields, r.field())
	}
	r.must(" ")
	p.Time = r.number()
	r.end()
	return p
}

// reader goes through a line.
type reader struct {
	text string
	at   int
}

func (r *reader) rest() string { return r.text[r.at:] }

func (r *reader) tag() api.Tag {
	name := r.word()
	r.must("=")
	return api.Tag{Key: name, Value: r.word()}
}

func (r *reader) field() api.Field {
	name := r.word()
	r.must("=")
	n := r.number()
	r.must(kind)
	return api.Field{Key: name, N: n}
}

// word reads a name or text, which may not be empty.
func (r *reader) word() string {
	said, size, err := key.Unescape(r.rest())
	if err != nil {
		place, _ := fault.Place(err)
		giveUp(r.at + place)
	}
	if said == "" {
		giveUp(r.at)
	}
	r.at += size
	return said
}

// number reads the longest row that could be a number.
func (r *reader) number() int64 {
	behind := strings.TrimLeft(strings.TrimPrefix(r.rest(), "-"), "0123456789")
	row := strings.TrimSuffix(r.rest(), behind)
	n, err := strconv.ParseInt(row, 10, 64)
	// Only what prints as it was read is in decimal: so 01 and -0 are not.
	if err != nil || strconv.FormatInt(n, 10) != row {
		giveUp(r.at)
	}
	r.at += len(row)
	return n
}

// follows passes a text, if it stands here.
func (r *reader) follows(text string) bool {
	there := strings.HasPrefix(r.rest(), text)
	if there {
		r.at += len(text)
	}
	return there
}

// must passes a text that has to stand here.
func (r *reader) must(text string) {
	if !r.follows(text) {
		giveUp(r.at)
	}
}

func (r *reader) end() {
	if r.rest() != "" {
		giveUp(r.at)
	}
}
