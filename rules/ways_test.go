package rules

import (
	"go/ast"
	"go/token"
	"testing"
)

// texts are the names of a function's arguments that are texts.
func texts(f *ast.FuncDecl) map[string]bool {
	names := map[string]bool{}
	for _, field := range f.Type.Params.List {
		if of, ok := field.Type.(*ast.Ident); ok && of.Name == "string" {
			for _, name := range field.Names {
				names[name.Name] = true
			}
		}
	}
	return names
}

// rangesOverText: does a function go through a text that is handed in by a range over it, letter by letter?
func rangesOverText(f *ast.FuncDecl) bool {
	found := false
	names := texts(f)
	ast.Inspect(f, func(n ast.Node) bool {
		if loop, ok := n.(*ast.RangeStmt); ok && loop.Value != nil {
			if over, ok := loop.X.(*ast.Ident); ok && names[over.Name] {
				found = true
			}
		}
		return true
	})
	return found
}

// handsOnAFunction: does a function hand a function literal on to another one?
func handsOnAFunction(f *ast.FuncDecl) bool {
	found := false
	ast.Inspect(f, func(n ast.Node) bool {
		if call, ok := n.(*ast.CallExpr); ok {
			for _, arg := range call.Args {
				if _, ok := arg.(*ast.FuncLit); ok {
					found = true
				}
			}
		}
		return true
	})
	return found
}

// makesAMap: does a function make a map?
func makesAMap(f *ast.FuncDecl) bool {
	found := false
	ast.Inspect(f, func(n ast.Node) bool {
		if _, ok := n.(*ast.MapType); ok {
			found = true
		}
		return true
	})
	return found
}

// rangesOverCall: does a function go through what a call answers? Where that call answers no list, it answers a function.
func rangesOverCall(f *ast.FuncDecl) bool {
	found := false
	ast.Inspect(f, func(n ast.Node) bool {
		if loop, ok := n.(*ast.RangeStmt); ok && loop.Key != nil && loop.Value == nil {
			if _, ok := loop.X.(*ast.CallExpr); ok {
				found = true
			}
		}
		return true
	})
	return found
}

// wantWays asks each of the functions whether it leans on its way.
func wantWays(t *testing.T, leans map[string]func(*ast.FuncDecl) bool) {
	t.Helper()
	for _, s := range sources(t) {
		for _, d := range s.file.Decls {
			f, ok := d.(*ast.FuncDecl)
			if !ok {
				continue
			}
			name := layers[s.layer] + "." + f.Name.Name
			if way := leans[name]; way != nil {
				if !way(f) {
					t.Errorf("%s: %s does not lean on its way", s.line(f), name)
				}
				delete(leans, name)
			}
		}
	}
	for name := range leans {
		t.Errorf("%s is not there", name)
	}
}

// The ways of stage 1: octet's texts are gone through by a range over them, sums' registers go through a function that is handed on.
func TestWaysOfStageOne(t *testing.T) {
	wantWays(t, map[string]func(*ast.FuncDecl) bool{
		"octet.Unhex": rangesOverText,
		"octet.Addr":  rangesOverText,
		"sums.Crc":    handsOnAFunction,
		"sums.Net":    handsOnAFunction,
	})
}

// The ways of stage 2: serial holds numbers in a map and compares them by a function that is handed on, gaps goes through what was taken by a range over a function.
func TestWaysOfStageTwo(t *testing.T) {
	wantWays(t, map[string]func(*ast.FuncDecl) bool{
		"serial.once": makesAMap,
		"serial.Sort": handsOnAFunction,
		"gaps.Top":    rangesOverCall,
		"gaps.Blocks": rangesOverCall,
	})
	if !hasArray(t, "gaps") {
		t.Error("gaps: what was taken is no array")
	}
}

// isVariadic: does a function take as many arguments as it is given?
func isVariadic(f *ast.FuncDecl) bool {
	list := f.Type.Params.List
	if len(list) == 0 {
		return false
	}
	_, ok := list[len(list)-1].Type.(*ast.Ellipsis)
	return ok
}

// The ways of stage 3: hash's words are an array, and the 64 of them a literal of the package; cookie's numbers are laid by a variadic call, and gone through by a function that is handed on.
func TestWaysOfStageThree(t *testing.T) {
	wantWays(t, map[string]func(*ast.FuncDecl) bool{
		"cookie.lay":  isVariadic,
		"cookie.Seal": handsOnAFunction,
		"cookie.read": handsOnAFunction,
	})
	if !hasArray(t, "hash") {
		t.Error("hash: words are no array")
	}
	if n := longestTable(t, "hash"); n != 64 {
		t.Errorf("hash: the package's longest table has %d words", n)
	}
}

// longestTable is how many elements the longest table has that stands at a layer's package level.
func longestTable(t *testing.T, layer string) int {
	t.Helper()
	longest := 0
	for _, s := range sources(t) {
		if layers[s.layer] != layer {
			continue
		}
		for _, d := range s.file.Decls {
			g, ok := d.(*ast.GenDecl)
			if !ok || g.Tok != token.VAR {
				continue
			}
			for _, spec := range g.Specs {
				for _, value := range spec.(*ast.ValueSpec).Values {
					if table, ok := value.(*ast.CompositeLit); ok {
						longest = max(longest, len(table.Elts))
					}
				}
			}
		}
	}
	return longest
}

// hasArray: has a layer a type that is an array?
func hasArray(t *testing.T, layer string) bool {
	t.Helper()
	found := false
	for _, s := range sources(t) {
		if layers[s.layer] != layer {
			continue
		}
		ast.Inspect(s.file, func(n ast.Node) bool {
			if spec, ok := n.(*ast.TypeSpec); ok {
				of, ok := spec.Type.(*ast.ArrayType)
				found = found || ok && of.Len != nil
			}
			return true
		})
	}
	return found
}

// countsByIota: does a layer count constants from 0?
func countsByIota(t *testing.T, layer string) bool {
	t.Helper()
	found := false
	for _, s := range sources(t) {
		if layers[s.layer] != layer {
			continue
		}
		for _, d := range s.file.Decls {
			g, ok := d.(*ast.GenDecl)
			if !ok || g.Tok != token.CONST {
				continue
			}
			for _, value := range g.Specs[0].(*ast.ValueSpec).Values {
				of, ok := value.(*ast.Ident)
				found = found || ok && of.Name == "iota"
			}
		}
	}
	return found
}

// rangesOverSum: does a function go through the numbers below what is reckoned, by a range over that?
func rangesOverSum(f *ast.FuncDecl) bool {
	found := false
	ast.Inspect(f, func(n ast.Node) bool {
		if loop, ok := n.(*ast.RangeStmt); ok {
			_, sum := loop.X.(*ast.BinaryExpr)
			found = found || sum
		}
		return true
	})
	return found
}

// answersAFunction: does a function make another one and answer it?
func answersAFunction(f *ast.FuncDecl) bool {
	found := false
	ast.Inspect(f, func(n ast.Node) bool {
		if answer, ok := n.(*ast.ReturnStmt); ok && len(answer.Results) == 1 {
			_, made := answer.Results[0].(*ast.FuncLit)
			found = found || made
		}
		return true
	})
	return found
}

// The ways of stage 4: ring's owners are counted by iota and found round the ring by a range over a number; ether's text is gone through by a range over it, and a frame's parts are cut by a function that is made and handed on.
func TestWaysOfStageFour(t *testing.T) {
	wantWays(t, map[string]func(*ast.FuncDecl) bool{
		"ring.Owner":    rangesOverSum,
		"ether.Mac":     rangesOverText,
		"ether.cutting": answersAFunction,
		"ether.laying":  answersAFunction,
	})
	if !countsByIota(t, "ring") {
		t.Error("ring: owners are not counted from 0")
	}
}

// deletes: does a function take something out of a map?
func deletes(f *ast.FuncDecl) bool {
	found := false
	ast.Inspect(f, func(n ast.Node) bool {
		if call, ok := n.(*ast.CallExpr); ok {
			of, ok := call.Fun.(*ast.Ident)
			found = found || ok && of.Name == "delete"
		}
		return true
	})
	return found
}

// cutsByThree: does a function cut a list with three indices?
func cutsByThree(f *ast.FuncDecl) bool {
	found := false
	ast.Inspect(f, func(n ast.Node) bool {
		if cut, ok := n.(*ast.SliceExpr); ok {
			found = found || cut.Slice3
		}
		return true
	})
	return found
}

// The ways of stage 5: arp's neighbours are laid into a map and go out of it; ip's packets are read by a function that goes on where it stood, and cut with three indices.
func TestWaysOfStageFive(t *testing.T) {
	wantWays(t, map[string]func(*ast.FuncDecl) bool{
		"arp.keep":     makesAMap,
		"arp.makeRoom": deletes,
		"arp.Tick":     deletes,
		"ip.reading":   answersAFunction,
		"ip.cut":       cutsByThree,
	})
}

// has: does a function have something of which is says that it is it?
func has(is func(ast.Node) bool) func(*ast.FuncDecl) bool {
	return func(f *ast.FuncDecl) bool {
		found := false
		ast.Inspect(f, func(n ast.Node) bool {
			found = found || n != nil && is(n)
			return true
		})
		return found
	}
}

// isCallOf asks whether something is a call of a function by its name.
func isCallOf(name string) func(ast.Node) bool {
	return func(n ast.Node) bool {
		call, ok := n.(*ast.CallExpr)
		if !ok {
			return false
		}
		of, ok := call.Fun.(*ast.Ident)
		return ok && of.Name == name
	}
}

// asserts: does a function take a value out of an interface, by the name of its type?
func asserts(n ast.Node) bool {
	x, ok := n.(*ast.TypeAssertExpr)
	return ok && x.Type != nil
}

// switchesOnType: does a function ask which type a value has?
func switchesOnType(n ast.Node) bool {
	_, ok := n.(*ast.TypeSwitchStmt)
	return ok
}

// holdsAgainst: does a function hold two things against each other?
func holdsAgainst(n ast.Node) bool {
	x, ok := n.(*ast.BinaryExpr)
	return ok && (x.Op == token.EQL || x.Op == token.NEQ)
}

// defersRecover: does a function take a panic back in a literal that is deferred?
func defersRecover(n ast.Node) bool {
	x, ok := n.(*ast.DeferStmt)
	if !ok {
		return false
	}
	_, literal := x.Call.Fun.(*ast.FuncLit)
	found := false
	ast.Inspect(x, func(n ast.Node) bool {
		found = found || n != nil && isCallOf("recover")(n)
		return true
	})
	return literal && found
}

// kindOf is which kind of type stands in a layer under a name.
func kindOf(t *testing.T, layer, name string) ast.Expr {
	t.Helper()
	for _, s := range sources(t) {
		if layers[s.layer] != layer {
			continue
		}
		for _, d := range s.file.Decls {
			g, ok := d.(*ast.GenDecl)
			if !ok || g.Tok != token.TYPE {
				continue
			}
			for _, spec := range g.Specs {
				if x := spec.(*ast.TypeSpec); x.Name.Name == name {
					return x.Type
				}
			}
		}
	}
	return nil
}

// The ways of stage 6: reasm's packets are told apart by structs, and go out of their list by a function that is handed on; chunk's values stand in an interface and are asserted, and its reader panics with a fault that a deferred literal takes back.
func TestWaysOfStageSix(t *testing.T) {
	wantWays(t, map[string]func(*ast.FuncDecl) bool{
		"reasm.named":      has(holdsAgainst),
		"reasm.Tick":       handsOnAFunction,
		"chunk.chunkOf":    has(switchesOnType),
		"chunk.takeValue":  has(switchesOnType),
		"chunk.lacksData":  has(asserts),
		"chunk.must":       has(isCallOf("panic")),
		"chunk.readPacket": has(defersRecover),
	})
	if _, ok := kindOf(t, "reasm", "name").(*ast.StructType); !ok {
		t.Error("reasm: what tells packets apart is no struct")
	}
	if _, ok := kindOf(t, "chunk", "value").(*ast.InterfaceType); !ok {
		t.Error("chunk: what a chunk's value is stands in no interface")
	}
}

// leavesByLabel: does a function leave a loop by the loop's label?
func leavesByLabel(n ast.Node) bool {
	x, ok := n.(*ast.BranchStmt)
	return ok && x.Tok == token.BREAK && x.Label != nil
}

// The ways of stage 7: streams' pieces are laid into a map and go out of it, and runs of them are left from within by a label; outq's pieces are gone through by a range over a function, and how they stand is counted by iota.
func TestWaysOfStageSeven(t *testing.T) {
	wantWays(t, map[string]func(*ast.FuncDecl) bool{
		"streams.New":     makesAMap,
		"streams.lift":    deletes,
		"streams.release": deletes,
		"streams.run":     has(leavesByLabel),
		"outq.Send":       rangesOverCall,
		"outq.Expire":     rangesOverCall,
		"outq.Flight":     rangesOverCall,
	})
	if !countsByIota(t, "outq") {
		t.Error("outq: how a piece stands is not counted from 0")
	}
}

// embeds: has a struct of a layer a type embedded, by the name that it has there?
func embeds(t *testing.T, layer, name, part string) bool {
	t.Helper()
	of, ok := kindOf(t, layer, name).(*ast.StructType)
	if !ok {
		return false
	}
	for _, field := range of.Fields.List {
		x := field.Type
		if star, ok := x.(*ast.StarExpr); ok {
			x = star.X
		}
		if from, ok := x.(*ast.SelectorExpr); ok && len(field.Names) == 0 && from.Sel.Name == part {
			return true
		}
	}
	return false
}

// reaches asks whether something is a part of what it belongs to, by its name alone.
func reaches(name string) func(ast.Node) bool {
	return func(n ast.Node) bool {
		x, ok := n.(*ast.SelectorExpr)
		if !ok {
			return false
		}
		_, direct := x.X.(*ast.Ident)
		return direct && x.Sel.Name == name
	}
}

// The ways of stage 8: what a path is for others is embedded in it, and its fields are reached through it; assoc's chunks are laid into a packet by a variadic call, and its two ways stand in an array.
func TestWaysOfStageEight(t *testing.T) {
	wantWays(t, map[string]func(*ast.FuncDecl) bool{
		"path.Grow":    has(reaches("Window")),
		"path.measure": has(reaches("Mean")),
		"assoc.packet": isVariadic,
		"assoc.put":    isVariadic,
	})
	if !embeds(t, "path", "Path", "Way") {
		t.Error("path: what a way is for others is not embedded")
	}
	if of, ok := kindOf(t, "assoc", "lanes").(*ast.ArrayType); !ok || of.Len == nil {
		t.Error("assoc: the two ways stand in no array")
	}
}

// rangesOver asks whether something goes through what has a name, as it is or as a part of what it belongs to.
func rangesOver(name string) func(ast.Node) bool {
	return func(n ast.Node) bool {
		loop, ok := n.(*ast.RangeStmt)
		if !ok {
			return false
		}
		part, ok := loop.X.(*ast.SelectorExpr)
		return ok && part.Sel.Name == name
	}
}

// cutsOut: is it a call that takes elements out of a list by package slices?
func cutsOut(n ast.Node) bool {
	call, ok := n.(*ast.CallExpr)
	if !ok {
		return false
	}
	of, ok := call.Fun.(*ast.SelectorExpr)
	if !ok {
		return false
	}
	pack, ok := of.X.(*ast.Ident)
	return ok && pack.Name == "slices" && of.Sel.Name == "Delete"
}

// isArray: is a type of a layer an array?
func isArray(t *testing.T, layer, name string) bool {
	t.Helper()
	of, ok := kindOf(t, layer, name).(*ast.ArrayType)
	return ok && of.Len != nil
}

// The ways of stage 9: host's sockets are an array, and its cards are gone through by the range of a number; world's hosts by the range of an array, and what is under way is cut out by package slices; judge's sides stand in a map.
func TestWaysOfStageNine(t *testing.T) {
	wantWays(t, map[string]func(*ast.FuncDecl) bool{
		"host.Step":    has(rangesOver("Cards")),
		"world.round":  has(rangesOver("hosts")),
		"world.carry":  has(rangesOver("hosts")),
		"world.meddle": has(cutsOut),
	})
	if !isArray(t, "host", "sockets") {
		t.Error("host: sockets are no array")
	}
	if !isArray(t, "world", "pair") {
		t.Error("world: hosts are no array")
	}
	of, ok := kindOf(t, "judge", "court").(*ast.MapType)
	if !ok {
		t.Fatal("judge: sides stand in no map")
	}
	if by, ok := of.Key.(*ast.Ident); !ok || by.Name != "side" {
		t.Error("judge: sides do not stand by what they are")
	}
}
