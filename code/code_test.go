package code

import (
	"bytes"
	"math"
	"reflect"
	"strings"
	"testing"

	"weir/api"
	"weir/expect"
	"weir/sample"
)

// made is what a call makes of something, without an error.
func made[A, B any](t *testing.T, call func(A) (B, error), of A) B {
	t.Helper()
	b, err := call(of)
	fails(t, of, err, 0, expect.None)
	return b
}

// The chapter's first and second example.
func TestExamples(t *testing.T) {
	if b := made(t, Encode, api.Program{}); !bytes.Equal(b, make([]byte, 14)) {
		t.Errorf("%x", b)
	}
	if s := made(t, List, api.Program{}); s != "from \"\"\ninto \"\"\nwindow 0 0\nfilter\noutput\n" {
		t.Errorf("%s", s)
	}
	p := api.Program{Filter: []api.Ins{{Code: api.PushTag, A: 0, B: 1}, {Code: api.JumpFalse, A: -1}}}
	if b := made(t, Encode, p); !bytes.Equal(b, append(make([]byte, 12), 2, 3, 0, 2, 10, 1, 0)) {
		t.Errorf("%x", b)
	}
	if s := made(t, List, p); s != "from \"\"\ninto \"\"\nwindow 0 0\nfilter\npushtag 0 1\njumpfalse -1\noutput\n" {
		t.Errorf("%s", s)
	}
}

// All parts of a program, as bytes and as lines.
func TestAllParts(t *testing.T) {
	p := api.Program{
		From: "cpu", Into: "h\n", Every: 3600, Offset: -1, Groups: []string{"host", ""}, Accs: []api.Acc{{Func: api.TotalOf, Field: "v"}, {Func: 255}},
		Aliases: []string{"m"}, Names: []string{"a b"}, Texts: []string{`"\~`}, Lists: [][]string{{"x", ""}, nil, {"\x1f\x7f\x80"}},
		Times: []int64{math.MinInt64, 5}, Ints: []int64{math.MaxInt64},
		Filter: []api.Ins{{Code: api.PushTrue}, {Code: api.Accept}},
		Output: []api.Ins{{Code: api.Ratio, A: 0, B: 1}, {Code: api.LoadInt, A: 0}, {Code: api.Emit, A: math.MinInt64}, {Code: api.Done}},
	}
	const lines = `from "cpu"
into "h\x0a"
window 3600 -1
group "host"
group ""
acc 2 "v"
acc 255 ""
alias "m"
name "a b"
text "\x22\x5c~"
list "x" ""
list
list "\x1f\x7f\x80"
time -9223372036854775808
time 5
int 9223372036854775807
filter
pushtrue
accept
output
ratio 0 1
loadint 0
emit -9223372036854775808
done
`
	if s := made(t, List, p); s != lines {
		t.Error(s)
	}
	const least, most = "\xff\xff\xff\xff\xff\xff\xff\xff\xff\x01", "\xfe\xff\xff\xff\xff\xff\xff\xff\xff\x01"
	const all = "\x03cpu\x02h\n\xa0\x38\x01" + "\x02\x04host\x00" + "\x02\x02\x01v\xff\x00" + "\x01\x01m" + "\x01\x03a b" + "\x01\x03\"\\~" +
		"\x03\x02\x01x\x00\x00\x01\x03\x1f\x7f\x80" + "\x02" + least + "\x0a" + "\x01" + most + "\x02\x01\x0d" + "\x04\x10\x00\x02\x0f\x00\x17" + least + "\x18"
	if b := made(t, Encode, p); string(b) != all {
		t.Errorf("%q", b)
	}
	for name, read := range map[string]func() (api.Program, error){
		"Decode":   func() (api.Program, error) { return Decode([]byte(all)) },
		"Assemble": func() (api.Program, error) { return Assemble(lines) },
	} {
		got, err := read()
		fails(t, name, err, 0, expect.None)
		if !alike(got, p) || !Same(got, p) {
			t.Errorf("%s: %v", name, got)
		}
	}
}

// P18.1
func TestNames(t *testing.T) {
	names, uses := called(), operands()
	if len(names) != 24 {
		t.Fatal(names)
	}
	for c := range 256 {
		name := names[api.Code(c)]
		if Name(api.Code(c)) != name || Uses(api.Code(c)) != uses[name] {
			t.Errorf("%d: %s, %d, not %s", c, Name(api.Code(c)), Uses(api.Code(c)), name)
		}
	}
}

// P18.2, P18.3: programs that are not fit.
func TestFit(t *testing.T) {
	names, uses := called(), operands()
	for c := range 256 {
		for _, i := range []api.Ins{{}, {A: 1}, {B: 1}, {A: -1, B: math.MinInt64}} {
			i.Code = api.Code(c)
			name := names[i.Code]
			want := api.Errno(0)
			if name == "" || uses[name] == 0 && i.A != 0 || uses[name] < 2 && i.B != 0 {
				want = api.ErrCode
			}
			ahead := api.Ins{Code: api.Pop}
			for _, p := range []api.Program{{Filter: []api.Ins{i}}, {Output: []api.Ins{i}}, {Filter: []api.Ins{ahead, i, ahead}}, {Output: []api.Ins{ahead, ahead, i}}} {
				b, err := Encode(p)
				fails(t, p, err, want, expect.None)
				s, bad := List(p)
				fails(t, p, bad, want, expect.None)
				if want != 0 && (len(b) > 0 || s != "") {
					t.Errorf("%x and %q beside an error", b, s)
				}
			}
		}
	}
	long := api.Program{From: strings.Repeat("f", api.MaxCode), Filter: []api.Ins{{}}}
	_, err := Encode(long)
	fails(t, "too long, and not fit", err, api.ErrCode, expect.None)
}

// P18.2 to P18.5: any programs.
func TestAnyPrograms(t *testing.T) {
	d := draw()
	bytesOf, linesOf := map[string]api.Program{}, map[string]api.Program{}
	for range 4000 {
		p := program(d)
		b, s := made(t, Encode, p), made(t, List, p)
		if !bytes.Equal(b, written(p)) {
			t.Fatalf("%v: %x, not %x", p, b, written(p))
		}
		if s != listed(p) {
			t.Fatalf("%v: %s, not %s", p, s, listed(p))
		}
		fromBytes, err := Decode(b)
		fails(t, p, err, 0, expect.None)
		fromLines, bad := Assemble(s)
		fails(t, p, bad, 0, expect.None)
		if !alike(fromBytes, p) || !alike(fromLines, p) {
			t.Fatalf("%v: %v, %v", p, fromBytes, fromLines)
		}
		if other, there := bytesOf[string(b)]; there && !alike(p, other) {
			t.Fatalf("%x is of two programs", b)
		}
		if other, there := linesOf[s]; there && !alike(p, other) {
			t.Fatalf("%s is of two programs", s)
		}
		bytesOf[string(b)], linesOf[s] = p, p
	}
}

// P18.2: the longest bytes, and one more.
func TestLongest(t *testing.T) {
	for over := range 2 {
		p := api.Program{Into: strings.Repeat("i", api.MaxCode-14-2+over)}
		b, err := Encode(p)
		if over == 0 {
			fails(t, "longest", err, 0, expect.None)
			if len(b) != api.MaxCode || !bytes.Equal(b, written(p)) {
				t.Errorf("%d bytes", len(b))
			}
		} else {
			fails(t, "too long", err, api.ErrLong, expect.None)
			if len(b) > 0 {
				t.Errorf("%d bytes beside an error", len(b))
			}
		}
		got, err := Decode(written(p))
		if over == 0 {
			fails(t, "longest", err, 0, expect.None)
		} else {
			fails(t, "too long", err, api.ErrLong, expect.None)
		}
		if want := []api.Program{p, {}}[over]; !alike(got, want) {
			t.Error("another program")
		}
		// A listing has no such bound.
		if s := made(t, List, p); s != listed(p) {
			t.Errorf("%d bytes", len(s))
		}
		got, err = Assemble(listed(p))
		fails(t, "listing", err, 0, expect.None)
		if !alike(got, p) {
			t.Error("another program")
		}
	}
	// Bytes that are too many are told ahead of all else.
	_, err := Decode(bytes.Repeat([]byte{0xff}, api.MaxCode+1))
	fails(t, "too long, and wrong", err, api.ErrLong, expect.None)
}

// changes each make another program.
func changes() map[string]func(p *api.Program) {
	return map[string]func(p *api.Program){
		"From":     func(p *api.Program) { p.From += "x" },
		"Into":     func(p *api.Program) { p.Into += "x" },
		"Every":    func(p *api.Program) { p.Every++ },
		"Offset":   func(p *api.Program) { p.Offset++ },
		"Groups":   func(p *api.Program) { p.Groups = append(p.Groups, "") },
		"group":    func(p *api.Program) { p.Groups[0] += "x" },
		"Accs":     func(p *api.Program) { p.Accs = append(p.Accs, api.Acc{}) },
		"Func":     func(p *api.Program) { p.Accs[0].Func++ },
		"Field":    func(p *api.Program) { p.Accs[0].Field += "x" },
		"Aliases":  func(p *api.Program) { p.Aliases = append(p.Aliases, "") },
		"alias":    func(p *api.Program) { p.Aliases[0] += "x" },
		"Names":    func(p *api.Program) { p.Names = append(p.Names, "") },
		"name":     func(p *api.Program) { p.Names[0] += "x" },
		"Texts":    func(p *api.Program) { p.Texts = append(p.Texts, "") },
		"text":     func(p *api.Program) { p.Texts[0] += "x" },
		"Lists":    func(p *api.Program) { p.Lists = append(p.Lists, nil) },
		"list":     func(p *api.Program) { p.Lists[0] = append(p.Lists[0], "") },
		"Times":    func(p *api.Program) { p.Times = append(p.Times, 0) },
		"time":     func(p *api.Program) { p.Times[0]++ },
		"Ints":     func(p *api.Program) { p.Ints = append(p.Ints, 0) },
		"int":      func(p *api.Program) { p.Ints[0]++ },
		"Filter":   func(p *api.Program) { p.Filter = append(p.Filter, api.Ins{Code: api.Pop}) },
		"Output":   func(p *api.Program) { p.Output = append(p.Output, api.Ins{Code: api.Pop}) },
		"filter A": func(p *api.Program) { p.Filter[0].A++ },
		"filter B": func(p *api.Program) { p.Filter[0].B++ },
		"output A": func(p *api.Program) { p.Output[0].A++ },
		"output B": func(p *api.Program) { p.Output[0].B++ },
		"filter C": func(p *api.Program) { p.Filter[0].Code = api.PushIn },
		"output C": func(p *api.Program) { p.Output[0].Code = api.PushIn },
	}
}

// P18.1, P18.5: each thing that a program says makes another one.
func TestSame(t *testing.T) {
	d := draw()
	for range 100 {
		p := program(d)
		ratio := api.Ins{Code: api.Ratio, A: d(9), B: d(9)}
		p.Groups, p.Accs, p.Aliases, p.Names = append(p.Groups, ""), append(p.Accs, api.Acc{}), append(p.Aliases, ""), append(p.Names, "")
		p.Texts, p.Lists, p.Times, p.Ints = append(p.Texts, ""), append(p.Lists, nil), append(p.Times, 5), append(p.Ints, 7)
		p.Filter, p.Output = append([]api.Ins{ratio}, p.Filter...), append([]api.Ins{ratio}, p.Output...)
		if !Same(p, sample.CopyProgram(p)) {
			t.Fatalf("%v is not itself", p)
		}
		for name, change := range changes() {
			other := sample.CopyProgram(p)
			change(&other)
			if Same(p, other) || Same(other, p) {
				t.Fatalf("%s: %v is the same as %v", name, p, other)
			}
			if bytes.Equal(made(t, Encode, p), made(t, Encode, other)) || made(t, List, p) == made(t, List, other) {
				t.Fatalf("%s: %v looks like %v", name, p, other)
			}
		}
	}
	none := api.Program{Lists: [][]string{nil}, Filter: []api.Ins{{Code: 99, A: 1}}}
	empty := api.Program{Groups: []string{}, Accs: []api.Acc{}, Lists: [][]string{{}}, Times: []int64{}, Filter: []api.Ins{{Code: 99, A: 1}}, Output: []api.Ins{}}
	if !Same(none, empty) || Same(none, api.Program{}) {
		t.Error("what is not fit, and lists that are empty")
	}
}

// P3: what is handed in stays, and what is told lies by itself.
func TestMemory(t *testing.T) {
	d := draw()
	for range 500 {
		p := program(d)
		in, kept := sample.CopyProgram(p), sample.CopyProgram(p)
		b, s := made(t, Encode, in), made(t, List, in)
		if !reflect.DeepEqual(sample.SpareProgram(in), sample.SpareProgram(kept)) {
			t.Fatalf("%v, not %v", in, kept)
		}
		room := append(b, 77)[:len(b)]
		for name, read := range map[string]func() (api.Program, error){
			"Decode":   func() (api.Program, error) { return Decode(room) },
			"Assemble": func() (api.Program, error) { return Assemble(s) },
		} {
			first, err := read()
			fails(t, name, err, 0, expect.None)
			sample.SpoilProgram(first)
			second, err := read()
			fails(t, name, err, 0, expect.None)
			if !alike(second, p) || !bytes.Equal(room[:len(b)+1], append(written(p), 77)) {
				t.Fatalf("%s: %v, not %v", name, second, p)
			}
			parts(t, second)
		}
	}
}

// parts holds the lists of one program apart: what is changed in one changes none of the others.
func parts(t *testing.T, p api.Program) {
	t.Helper()
	kept := sample.CopyProgram(p)
	sample.Fill(p.Groups, "spoilt")
	sample.Fill(p.Times, 99)
	sample.Fill(p.Filter, api.Ins{Code: 99})
	for i, l := range p.Lists {
		if i%2 == 0 {
			sample.Fill(l, "spoilt")
		}
	}
	p.Groups, p.Times, p.Filter = kept.Groups, kept.Times, kept.Filter
	for i := range p.Lists {
		if i%2 == 0 {
			p.Lists[i] = kept.Lists[i]
		}
	}
	if !alike(p, kept) {
		t.Fatalf("%v, not %v", p, kept)
	}
}
