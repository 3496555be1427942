// Package rules holds tests of the program's form: what its packages import, how they are laid out, which calls they have.
package rules

import (
	"bytes"
	"go/ast"
	"go/format"
	"go/parser"
	"go/token"
	"os"
	"path/filepath"
	"strconv"
	"strings"
	"testing"
)

const root = ".."

// layers are the packages in the order in which each may call those ahead of it.
var layers = []string{
	"api", "octet", "sums", "serial", "gaps", "hash", "cookie", "ring", "ether", "arp", "ip",
	"reasm", "chunk", "streams", "outq", "path", "assoc", "draws", "host", "world", "judge",
}

// library is what of Go's own packages the program may import.
var library = strings.Fields("bytes cmp container/heap errors iter maps math math/bits slices sort strconv strings sync sync/atomic unicode unicode/utf8")

// longest is how many lines a function may have.
const longest = 60

type source struct {
	layer int
	path  string
	text  []byte
	fset  *token.FileSet
	file  *ast.File
}

func (s source) line(n ast.Node) string {
	return s.path + ":" + strconv.Itoa(s.fset.Position(n.Pos()).Line)
}

// sources are the program's files, tests left out.
func sources(t *testing.T) []source {
	t.Helper()
	var all []source
	for i, layer := range layers {
		paths, err := filepath.Glob(filepath.Join(root, layer, "*.go"))
		if err != nil || len(paths) == 0 {
			t.Fatalf("package %s is not there: %v", layer, err)
		}
		for _, path := range paths {
			if strings.HasSuffix(path, "_test.go") {
				continue
			}
			text, err := os.ReadFile(path)
			if err != nil {
				t.Fatal(err)
			}
			fset := token.NewFileSet()
			file, err := parser.ParseFile(fset, path, text, parser.ParseComments)
			if err != nil {
				t.Fatal(err)
			}
			all = append(all, source{i, path, text, fset, file})
		}
	}
	return all
}

func place(list []string, x string) int {
	for i, y := range list {
		if x == y {
			return i
		}
	}
	return -1
}

// A package imports little of the library, and of the layers those ahead of it alone.
func TestImports(t *testing.T) {
	for _, s := range sources(t) {
		for _, spec := range s.file.Imports {
			path, _ := strconv.Unquote(spec.Path.Value)
			if place(library, path) >= 0 {
				continue
			}
			own, ok := strings.CutPrefix(path, "trunkline/")
			at := place(layers, own)
			if !ok || at < 0 || at >= s.layer {
				t.Errorf("%s: imports %s", s.line(spec), path)
			}
		}
	}
}

// No line speaks to the compiler, and all is laid out by gofmt.
func TestLayout(t *testing.T) {
	for _, s := range sources(t) {
		for _, group := range s.file.Comments {
			for _, c := range group.List {
				if strings.HasPrefix(c.Text, "//go:") || strings.HasPrefix(c.Text, "// +build") {
					t.Errorf("%s: %s", s.line(c), c.Text)
				}
			}
		}
		laid, err := format.Source(s.text)
		if err != nil || !bytes.Equal(laid, s.text) {
			t.Errorf("%s: not in gofmt's layout (%v)", s.path, err)
		}
	}
}

// The layers' folders hold files of Go and nothing else.
func TestNothingBesideGo(t *testing.T) {
	for _, layer := range layers {
		entries, err := os.ReadDir(filepath.Join(root, layer))
		if err != nil {
			t.Fatal(err)
		}
		for _, e := range entries {
			if e.IsDir() || filepath.Ext(e.Name()) != ".go" {
				t.Errorf("%s/%s stands there", layer, e.Name())
			}
		}
	}
}

func TestFunctionsAreShort(t *testing.T) {
	for _, s := range sources(t) {
		for _, d := range s.file.Decls {
			f, ok := d.(*ast.FuncDecl)
			if !ok {
				continue
			}
			lines := s.fset.Position(f.End()).Line - s.fset.Position(f.Pos()).Line + 1
			if lines > longest {
				t.Errorf("%s: %s has %d lines", s.line(f), f.Name.Name, lines)
			}
		}
	}
}

// mayStand: is it a value that may stand at package level, a table or an error of one text?
func mayStand(value ast.Expr) bool {
	switch v := value.(type) {
	case *ast.CompositeLit:
		_, isMap := v.Type.(*ast.MapType)
		return !isMap
	case *ast.CallExpr:
		f, ok := v.Fun.(*ast.SelectorExpr)
		if !ok || len(v.Args) != 1 {
			return false
		}
		pack, ok := f.X.(*ast.Ident)
		return ok && pack.Name == "errors" && f.Sel.Name == "New"
	case *ast.BasicLit:
		return v.Kind == token.INT || v.Kind == token.CHAR
	}
	return false
}

// P6: nothing is kept between calls: at package level stand no variables but tables and errors, each with its value.
func TestPackageLevel(t *testing.T) {
	for _, s := range sources(t) {
		for _, d := range s.file.Decls {
			if f, ok := d.(*ast.FuncDecl); ok && f.Recv == nil && f.Name.Name == "init" {
				t.Errorf("%s: func init", s.line(f))
			}
			g, ok := d.(*ast.GenDecl)
			if !ok || g.Tok != token.VAR {
				continue
			}
			for _, spec := range g.Specs {
				v := spec.(*ast.ValueSpec)
				if len(v.Values) != len(v.Names) {
					t.Errorf("%s: %s has no value of its own", s.line(v), v.Names[0].Name)
				}
				for _, value := range v.Values {
					if !mayStand(value) {
						t.Errorf("%s: %s may not stand at package level", s.line(v), v.Names[0].Name)
					}
				}
			}
		}
	}
}
