package code

import (
	"bytes"
	"encoding/binary"
	"math/big"
	"reflect"
	"regexp"
	"strings"
	"testing"

	"weir/api"
	"weir/expect"
	"weir/fault"
)

// bits goes through bytes by the words of chapters 3 and 18, and keeps the first fault.
type bits struct {
	all string
	at  int
	e   api.Errno
	pos int
}

func (b *bits) fail(e api.Errno, pos int) {
	if b.e == 0 {
		b.e, b.pos = e, pos
	}
}

func (b *bits) byte() byte {
	if b.e == 0 && b.at == len(b.all) {
		b.fail(api.ErrShort, b.at)
	}
	if b.e != 0 {
		return 0
	}
	b.at++
	return b.all[b.at-1]
}

// number reads one of at most ten bytes, and answers it with the place at which it begins.
func (b *bits) number() (v uint64, from int) {
	from = b.at
	for i := range 10 {
		c := b.byte()
		if b.e == 0 && (i == 9 && c > 1 || i > 0 && c == 0) {
			b.fail(api.ErrForm, b.at-1)
		}
		if b.e != 0 {
			return 0, from
		}
		v += uint64(c%128) << (7 * i)
		if c < 128 {
			return v, from
		}
	}
	return v, from
}

func (b *bits) count(each func()) {
	n, from := b.number()
	if n > 65536 {
		b.fail(api.ErrRange, from)
	}
	for ; n > 0 && b.e == 0; n-- {
		each()
	}
}

func (b *bits) text() {
	n, from := b.number()
	if n > 65536 {
		b.fail(api.ErrLong, from)
	}
	if b.e == 0 && n > uint64(len(b.all)-b.at) {
		b.fail(api.ErrShort, len(b.all))
	}
	if b.e == 0 {
		b.at += int(n)
	}
}

func (b *bits) instruction() {
	c := b.byte()
	name := called()[api.Code(c)]
	if name == "" && b.e == 0 {
		b.fail(api.ErrCode, b.at-1)
	}
	for range operands()[name] {
		b.number()
	}
}

// program tells what is wrong with bytes that must be a program's.
func (b *bits) program() (api.Errno, int) {
	if len(b.all) > 65536 {
		return api.ErrLong, expect.None
	}
	number := func() { b.number() }
	b.text()
	b.text()
	b.number()
	b.number()
	b.count(b.text)
	b.count(func() {
		b.byte()
		b.text()
	})
	b.count(b.text)
	b.count(b.text)
	b.count(b.text)
	b.count(func() { b.count(b.text) })
	b.count(number)
	b.count(number)
	b.count(b.instruction)
	b.count(b.instruction)
	if b.at < len(b.all) {
		b.fail(api.ErrMore, b.at)
	}
	if b.e == 0 {
		return 0, expect.None
	}
	return b.e, b.pos
}

// decodes holds Decode against the chapter's words, and answers the error's number.
func decodes(t *testing.T, all []byte) api.Errno {
	t.Helper()
	p, err := Decode(all)
	e, pos := (&bits{all: string(all)}).program()
	fails(t, all, err, e, pos)
	if err == nil && !bytes.Equal(made(t, Encode, p), all) {
		t.Fatalf("%x was read, %x is written", all, made(t, Encode, p))
	}
	if err != nil && !reflect.DeepEqual(p, api.Program{}) {
		t.Fatalf("%v beside an error", p)
	}
	return e
}

// P18.2, P18.4: bytes turned, cut, put in and left out.
func TestTurnedBytes(t *testing.T) {
	d := draw()
	told := map[api.Errno]int{}
	for range 30000 {
		b := written(program(d))
		for range 1 + d(2) {
			i := d(len(b))
			switch d(5) {
			case 0:
				b[i] = byte(d(256))
			case 1:
				b[i] ^= 1 << d(8)
			case 2:
				b = b[:i+1]
			case 3:
				b = append(b[:i], append([]byte{byte(d(40))}, b[i:]...)...)
			case 4:
				b = append(b[:i], append(binary.AppendUvarint(nil, uint64(1)<<d(64)), b[i:]...)...)
			}
		}
		told[decodes(t, b)]++
	}
	for _, e := range []api.Errno{0, api.ErrShort, api.ErrForm, api.ErrRange, api.ErrLong, api.ErrCode, api.ErrMore} {
		if told[e] < 50 {
			t.Errorf("the error %d came up %d times", e, told[e])
		}
	}
}

// P18.2: each beginning of a program's bytes, and bytes behind them.
func TestBeginnings(t *testing.T) {
	d := draw()
	for range 100 {
		b := written(program(d))
		for n := range b {
			if decodes(t, b[:n]) == 0 {
				t.Fatalf("%x is a program", b[:n])
			}
		}
		if decodes(t, append(b, 0)) != api.ErrMore {
			t.Fatalf("%x and a byte is a program", b)
		}
	}
}

// P18.2: how many there are of each part: 65536 may be told, 65537 not.
func TestCounts(t *testing.T) {
	for at := range 14 {
		for _, n := range []uint64{1, 65535, 65536, 65537, 1 << 40, 1<<64 - 1} {
			decodes(t, binary.AppendUvarint(make([]byte, at), n))
			decodes(t, append(binary.AppendUvarint(make([]byte, at), n), make([]byte, 65000)...))
		}
	}
	// One list more, and its texts.
	for _, n := range []uint64{65536, 65537} {
		decodes(t, binary.AppendUvarint(append(make([]byte, 9), 2, 0), n))
		decodes(t, binary.AppendUvarint(append(make([]byte, 9), 1, 1), n))
	}
	if _, err := Decode(nil); fault.Code(err) != api.ErrShort {
		t.Error(err)
	}
	decodes(t, nil)
}

// lineForms are what the lines of each part look like, in their order.
func lineForms() []*regexp.Regexp {
	const text = ` "(?:[ !#-\[\]-~]|\\x(?:[01][0-9a-f]|22|5c|7f|[89a-f][0-9a-f]))*"`
	const number = ` (0|-?[1-9][0-9]*)`
	var code []string
	for name, uses := range operands() {
		code = append(code, name+strings.Repeat(number, uses))
	}
	var all []*regexp.Regexp
	for _, form := range []string{
		"from" + text, "into" + text, "window" + number + number, "group" + text, "acc" + number + text, "alias" + text, "name" + text, "text" + text,
		"list(?:" + text + ")*", "time" + number, "int" + number, "filter", strings.Join(code, "|"), "output", strings.Join(code, "|"),
	} {
		all = append(all, regexp.MustCompile("^(?:"+form+")\n$"))
	}
	return all
}

// once are the parts that have just one line.
var once = map[int]bool{0: true, 1: true, 2: true, 11: true, 13: true}

// fitsLine tells whether a line is one of a form, its numbers being such that there are.
func fitsLine(form *regexp.Regexp, part int, line string) bool {
	found := form.FindStringSubmatch(line)
	if found == nil {
		return false
	}
	for _, digits := range found[1:] {
		n, _ := new(big.Int).SetString(digits, 10)
		if digits != "" && (!n.IsInt64() || part == 4 && (n.Sign() < 0 || n.Int64() > 255)) {
			return false
		}
	}
	return true
}

// misses is the place at which a text stops being a listing; None, if it is one.
func misses(forms []*regexp.Regexp, s string) int {
	part, at := 0, 0
	for _, line := range strings.SplitAfter(s, "\n") {
		if line == "" {
			break
		}
		for part < len(forms) && !fitsLine(forms[part], part, line) {
			if once[part] {
				return at
			}
			part++
		}
		if part == len(forms) {
			return at
		}
		if once[part] {
			part++
		}
		at += len(line)
	}
	if part < len(forms)-1 {
		return at
	}
	return expect.None
}

// assembles holds Assemble against the chapter's words, and tells whether a text is a listing.
func assembles(t *testing.T, forms []*regexp.Regexp, s string) bool {
	t.Helper()
	p, err := Assemble(s)
	pos, e := misses(forms, s), api.Errno(0)
	if pos != expect.None {
		e = api.ErrCode
	}
	fails(t, s, err, e, pos)
	if err == nil && made(t, List, p) != s {
		t.Fatalf("%s was read, %s is written", s, made(t, List, p))
	}
	if err != nil && !reflect.DeepEqual(p, api.Program{}) {
		t.Fatalf("%v beside an error", p)
	}
	return e == 0
}

// The chapter's third example, and lines that are nearly right.
func TestAssemble(t *testing.T) {
	forms := lineForms()
	const head, tail = "from \"\"\ninto \"\"\nwindow 0 0\n", "filter\noutput\n"
	for s, pos := range map[string]int{
		"":                                    0,
		"\n":                                  0,
		"from \"\"\ninto \"\"\nwindow 00 0\n": 16,
		"from \"\"\ninto \"\"\nwindow 0 0":    16,
		"from \"\"\ninto \"\"\nwindow 0 0\n":  27,
		head + "filter\n":                     34,
		head + "filter\noutput":               34,
		head + tail + "\n":                    41,
		head + tail + "filter\n":              41,
		head + tail + "pushtrue":              41,
		head + "acc 1 \"v\"\ngroup \"a\"\n" + tail: 37,
		"from \"\"\nfrom \"\"\n":                   8,
		"from \"\" \n":                             0,
		"from  \"\"\n":                             0,
		"from\n":                                   0,
		"into \"\"\n":                              0,
		" from \"\"\n":                             0,
		"From \"\"\n":                              0,
		"from \"a\nb\"\n":                          0,
		"from \"\"\r\n":                            0,
	} {
		_, err := Assemble(s)
		fails(t, s, err, api.ErrCode, pos)
		assembles(t, forms, s)
	}
	for _, text := range []string{
		`""`, `" "`, `"a b"`, `"~"`, `"\x22"`, `"\x5c"`, `"\x00"`, `"\x1f"`, `"\x7f"`, `"\x80"`, `"\xff"`, `"\x5c\x78"`, "\"\t\"", "\"\x7f\"", "\"é\"", "\"\xff\"", "\"\x00\"",
		`"`, `"""`, `"\"`, `"\""`, `"\\"`, `"\x"`, `"\x0"`, `"\x0g"`, `"\x0A"`, `"\X0a"`, `"\x20"`, `"\x41"`, `"\x7e"`, `"\n"`, `"a`, `a"`, `a`, `'a'`, ``, `"a""b"`, `"a" "b"`, `"\x+1"`, `"\x-1"`, `"\x 1"`, `"\x_1"`,
	} {
		assembles(t, forms, "from "+text+"\ninto \"\"\nwindow 0 0\n"+tail)
		assembles(t, forms, "from \"\"\ninto "+text+"\nwindow 0 0\n"+tail)
		for _, word := range []string{"group", "acc 0", "alias", "name", "text", "list", `list "x"`} {
			assembles(t, forms, head+word+" "+text+"\n"+tail)
		}
	}
	for _, n := range []string{
		"0", "-0", "00", "01", "-01", "+1", "1", "-1", "255", "256", "-", "", "1x", "0x", "x", "0x1", "1_0", "1e3", " 1", "1 ", "1.0", "é",
		"9223372036854775807", "9223372036854775808", "-9223372036854775808", "-9223372036854775809", "92233720368547758070", "18446744073709551616",
	} {
		for _, line := range []string{
			head + "acc " + n + " \"v\"\n" + tail, head + "time " + n + "\n" + tail, head + "int " + n + "\n" + tail,
			head + "filter\npushtag " + n + " 0\noutput\n", head + "filter\npushtag 0 " + n + "\noutput\n", head + tail + "emit " + n + "\n",
			"from \"\"\ninto \"\"\nwindow " + n + " 0\n" + tail, "from \"\"\ninto \"\"\nwindow 0 " + n + "\n" + tail,
		} {
			assembles(t, forms, line)
		}
	}
	for name := range operands() {
		for _, operands := range []string{"", " ", " 0", " 0 0", " 0 0 0", " -5", " 1 -2", "x", "  0", " 0 ", " x"} {
			assembles(t, forms, head+"filter\n"+name+operands+"\noutput\n")
			assembles(t, forms, head+"filter\noutput\n"+name+operands+"\n")
			assembles(t, forms, head+"filter\noutput\n"+name+operands)
			assembles(t, forms, head+name+operands+"\nfilter\noutput\n")
		}
	}
	for _, line := range []string{"pushnone", "push", "pushtru", "PUSHTRUE", "", " ", "filter", "output", "group \"a\"", "outputs", "filter ", "output 0"} {
		assembles(t, forms, head+"filter\n"+line+"\noutput\n")
		assembles(t, forms, head+"filter\noutput\n"+line+"\n")
	}
}

// P18.3, P18.4: lines changed, cut, put in, left out, put elsewhere.
func TestTurnedLines(t *testing.T) {
	d := draw()
	forms := lineForms()
	right := 0
	for range 20000 {
		s := listed(program(d))
		lines := strings.SplitAfter(s, "\n")
		i, j := d(len(lines)), d(len(lines))
		at := d(len(s))
		switch d(7) {
		case 0:
			lines[i], lines[j] = lines[j], lines[i]
			s = strings.Join(lines, "")
		case 1:
			lines[i] = lines[j]
			s = strings.Join(lines, "")
		case 2:
			lines[i] = ""
			s = strings.Join(lines, "")
		case 3:
			s = s[:at]
		case 4:
			s = s[:at] + string([]byte(" \"\\x0a1-\nfg")[d(10)]) + s[at:]
		case 5:
			s = s[:at] + s[at+1:]
		case 6:
			s = s[:at] + string([]byte{byte(d(256))}) + s[at+1:]
		}
		if assembles(t, forms, s) {
			right++
		}
	}
	if right < 2000 || right > 18000 {
		t.Errorf("%d were right", right)
	}
}

// P18.3: each beginning of a listing.
func TestCutLines(t *testing.T) {
	d := draw()
	forms := lineForms()
	for range 60 {
		s := listed(program(d))
		for n := range s {
			assembles(t, forms, s[:n])
		}
	}
}
