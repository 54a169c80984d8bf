// Package layout holds the program's text against the rules of its form: what it imports, the order of its layers, how it is laid out.
package layout

import (
	"bytes"
	"go/ast"
	"go/format"
	"go/parser"
	"go/token"
	"os"
	"path/filepath"
	"slices"
	"strings"
	"testing"
)

// layers stand in their order: each may import those ahead of it.
var layers = []string{
	"api", "funcs", "fault", "num", "reckon", "wire", "span", "key", "line", "batch", "series", "block", "index", "store", "lex", "ast", "parse",
	"check", "norm", "plan", "code", "verify", "gen", "heap", "acc", "cell", "vm", "cq", "engine", "journal", "shell",
}

var library = []string{
	"bytes", "cmp", "container/heap", "errors", "iter", "maps", "math", "math/big", "math/bits", "slices", "sort", "strconv", "strings",
	"sync", "sync/atomic", "unicode", "unicode/utf8",
}

// startUp are the packages whose chapter asks, under 'Ways', for one variable that is made when the program starts.
var startUp = []string{"lex"}

// mostLines is how long a function may be.
const mostLines = 60

type source struct {
	path, pack string
	text       []byte
	set        *token.FileSet
	file       *ast.File
}

// sources are the program's files, without its tests and those that are laid beside it.
func sources(t *testing.T) []source {
	t.Helper()
	paths, err := filepath.Glob("../*/*.go")
	if err != nil {
		t.Fatal(err)
	}
	var all []source
	for _, path := range paths {
		if strings.HasSuffix(path, "_test.go") {
			continue
		}
		text, err := os.ReadFile(path)
		if err != nil {
			t.Fatal(err)
		}
		set := token.NewFileSet()
		file, err := parser.ParseFile(set, path, text, parser.ParseComments)
		if err != nil {
			t.Fatal(err)
		}
		all = append(all, source{path, filepath.Base(filepath.Dir(path)), text, set, file})
	}
	return all
}

func TestEachLayerIsThere(t *testing.T) {
	for _, name := range layers {
		if !slices.ContainsFunc(sources(t), func(s source) bool { return s.pack == name && s.file.Name.Name == name }) {
			t.Errorf("no package %s", name)
		}
	}
}

func TestImports(t *testing.T) {
	for _, s := range sources(t) {
		for _, spec := range s.file.Imports {
			path := strings.Trim(spec.Path.Value, `"`)
			own, isOwn := strings.CutPrefix(path, "weir/")
			if !isOwn && !slices.Contains(library, path) {
				t.Errorf("%s imports %s", s.path, path)
			}
			if isOwn && own != "api" && (!slices.Contains(layers, own) || slices.Index(layers, own) >= slices.Index(layers, s.pack)) {
				t.Errorf("%s imports %s, which is no layer ahead of it", s.path, path)
			}
		}
	}
}

func TestLaidOut(t *testing.T) {
	for _, s := range sources(t) {
		if pretty, err := format.Source(s.text); err != nil || !bytes.Equal(pretty, s.text) {
			t.Errorf("%s is not in gofmt's layout", s.path)
		}
		for _, group := range s.file.Comments {
			for _, c := range group.List {
				if strings.HasPrefix(c.Text, "//go:") || strings.HasPrefix(c.Text, "// +build") {
					t.Errorf("%s: %s", s.path, c.Text)
				}
			}
		}
	}
}

func TestShortFunctions(t *testing.T) {
	for _, s := range sources(t) {
		for _, d := range s.file.Decls {
			if f, ok := d.(*ast.FuncDecl); ok {
				if n := s.set.Position(f.End()).Line - s.set.Position(f.Pos()).Line + 1; n > mostLines {
					t.Errorf("%s: %s has %d lines", s.path, f.Name.Name, n)
				}
			}
		}
	}
}

// At package level each variable is written out: errors.New of a text, or a literal that is no map and no function.
// Where start-up is asked for, one may be made by a call.
func TestVariables(t *testing.T) {
	made := map[string]int{}
	for _, s := range sources(t) {
		for _, d := range s.file.Decls {
			g, ok := d.(*ast.GenDecl)
			if !ok || g.Tok != token.VAR {
				continue
			}
			for _, spec := range g.Specs {
				v := spec.(*ast.ValueSpec)
				if len(v.Values) == len(v.Names) && !slices.ContainsFunc(v.Values, mayNotStand) {
					continue
				}
				made[s.pack]++
				if len(v.Values) != 1 || made[s.pack] > 1 || !slices.Contains(startUp, s.pack) {
					t.Errorf("%s: the variable %s", s.path, v.Names[0].Name)
				}
			}
		}
	}
}

func mayNotStand(e ast.Expr) bool {
	switch x := e.(type) {
	case *ast.CallExpr:
		f, ok := x.Fun.(*ast.SelectorExpr)
		if !ok {
			return true
		}
		from, ok := f.X.(*ast.Ident)
		return !ok || from.Name != "errors" || f.Sel.Name != "New"
	case *ast.CompositeLit:
		_, isMap := x.Type.(*ast.MapType)
		return isMap
	}
	return true
}

// Beside the Go files of a package stands nothing else.
func TestGoFilesAlone(t *testing.T) {
	for _, name := range layers {
		entries, err := os.ReadDir(filepath.Join("..", name))
		if err != nil {
			t.Error(err)
		}
		for _, e := range entries {
			if e.IsDir() || !strings.HasSuffix(e.Name(), ".go") {
				t.Errorf("%s/%s", name, e.Name())
			}
		}
	}
}
