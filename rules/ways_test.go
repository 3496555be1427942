package rules

import (
	"go/ast"
	"testing"
)

// texts are the names of a function's arguments that are texts.
func texts(f *ast.FuncDecl) map[string]bool {
	names := map[string]bool{}
	for _, field := range f.Type.Params.List {
		if of, ok := field.Type.(*ast.Ident); ok && of.Name == "string" {
			for _, name := range field.Names {
				names[name.Name] = true
			}
		}
	}
	return names
}

// rangesOverText: does a function go through a text that is handed in by a range over it, letter by letter?
func rangesOverText(f *ast.FuncDecl) bool {
	found := false
	names := texts(f)
	ast.Inspect(f, func(n ast.Node) bool {
		if loop, ok := n.(*ast.RangeStmt); ok && loop.Value != nil {
			if over, ok := loop.X.(*ast.Ident); ok && names[over.Name] {
				found = true
			}
		}
		return true
	})
	return found
}

// handsOnAFunction: does a function hand a function literal on to another one?
func handsOnAFunction(f *ast.FuncDecl) bool {
	found := false
	ast.Inspect(f, func(n ast.Node) bool {
		if call, ok := n.(*ast.CallExpr); ok {
			for _, arg := range call.Args {
				if _, ok := arg.(*ast.FuncLit); ok {
					found = true
				}
			}
		}
		return true
	})
	return found
}

// The ways of stage 1: octet's texts are gone through by a range over them, sums' registers go through a function that is handed on.
func TestWaysOfStageOne(t *testing.T) {
	leans := map[string]func(*ast.FuncDecl) bool{
		"octet.Unhex": rangesOverText,
		"octet.Addr":  rangesOverText,
		"sums.Crc":    handsOnAFunction,
		"sums.Net":    handsOnAFunction,
	}
	for _, s := range sources(t) {
		for _, d := range s.file.Decls {
			f, ok := d.(*ast.FuncDecl)
			if !ok {
				continue
			}
			name := layers[s.layer] + "." + f.Name.Name
			if way := leans[name]; way != nil {
				if !way(f) {
					t.Errorf("%s: %s does not lean on its way", s.line(f), name)
				}
				delete(leans, name)
			}
		}
	}
	for name := range leans {
		t.Errorf("%s is not there", name)
	}
}
