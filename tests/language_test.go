package tests

import (
	"fmt"
	"go/ast"
	"go/parser"
	"go/token"
	"go/types"
	"path/filepath"
	"slices"
	"strings"
	"testing"
)

// layers are the files of the package, one for each chapter.
func layers() []string {
	names := []string{
		"shapes", "tensors", "exprs", "sums", "orders", "changes", "slopes", "loops", "machine", "plans", "layouts",
		"sparse", "products", "scans", "steps", "shards", "schedules", "batches", "texts", "stages", "desk",
	}
	for i, name := range names {
		names[i] = fmt.Sprintf("l%d_%s.go", i+1, name)
	}
	return names
}

func TestEachLayerHasItsFile(t *testing.T) {
	files := programFiles(t)
	for _, name := range layers() {
		if !slices.Contains(files, filepath.Join("..", "impl", name)) {
			t.Errorf("impl has no %s", name)
		}
	}
}

func TestProgramKeepsToTheLanguage(t *testing.T) {
	set := token.NewFileSet()
	var files []*ast.File
	for _, name := range programFiles(t) {
		file, err := parser.ParseFile(set, name, nil, parser.SkipObjectResolution)
		if err != nil {
			t.Fatal(err)
		}
		files = append(files, file)
	}
	for _, fault := range faultsOf(set, files) {
		t.Error(fault)
	}
}

func programFiles(t *testing.T) []string {
	t.Helper()
	found, err := filepath.Glob(filepath.Join("..", "impl", "*.go"))
	if err != nil {
		t.Fatal(err)
	}
	isTest := func(name string) bool { return strings.HasSuffix(name, "_test.go") }
	return slices.DeleteFunc(found, isTest)
}

// What finds faults is worth nothing if it finds none, so each kind of fault is shown to it.
func TestFaultsAreFound(t *testing.T) {
	for _, text := range []string{
		`import "strings"; func F() string { return strings.ToUpper("a") }`,
		`var table = []int{1}`,
		`func init() {}`,
		`type I interface{ M() }`,
		`func F(x any) {}`,
		`func F() error { return nil }`,
		`func F(x struct{}) { switch interface{}(x).(type) {} }`,
		`func F() { f := func() {}; f() }`,
		`type T func(int) int`,
		`func F() { g := G; g() }; func G() {}`,
		`type T int; func (t T) M() {}; func F(t T) { g := t.M; g() }`,
		`func F() { m := map[int]int{}; m[1] = 1 }`,
		`func F(c chan int) {}`,
		`func F() { go F() }`,
		`func F() { select {} }`,
		`func F() { defer F() }`,
		`func F() { panic("a") }`,
		`func F() { recover() }`,
		`func F() { a: goto a }`,
		`func F[T int](x T) {}`,
		`type T[U int] struct { X U }`,
		`func F(x float64) {}`,
		`func F() int { return int(2.0) }`,
		`func F(x complex128) {}`,
		`func F(a []int) { a[0], a[1] = a[1], a[0] }`,
		`type T struct { X int }; func F(t T) int { var x int; x, t.X = 1, 2; return x }`,
		`func F(a []int) int { return cap(a) }`,
		`func F(a []int) []int { return a[0:0:0] }`,
		`func F(a []int) bool { return a == nil }`,
		`func F(a []int) bool { return nil != a }`,
	} {
		if faults := faultsOfText(t, text); len(faults) == 0 {
			t.Errorf("no fault is found in %s", text)
		}
	}
	for _, text := range []string{
		`func F(x, y int) (int, int) { x, y = y, x; return x, y }`,
		`type T struct { List []int }; func (t T) M(x int) T { t.List = append([]int{}, x); return t }; func F(t T) T { return t.M(1) }`,
		`const Most = 4; func F(n int) int { if n < 1 { return Most }; return F(n - 1) }`,
		`func F(list []int) (sum int) { a: for _, x := range list { for { if x > 0 { continue a }; break a } }; return len(list[1:]) }`,
	} {
		if faults := faultsOfText(t, text); len(faults) != 0 {
			t.Errorf("faults are found in %s: %v", text, faults)
		}
	}
}

func faultsOfText(t *testing.T, text string) []string {
	t.Helper()
	set := token.NewFileSet()
	file, err := parser.ParseFile(set, "text.go", "package impl; "+text, parser.SkipObjectResolution)
	if err != nil {
		t.Fatalf("%v in %s", err, text)
	}
	return faultsOf(set, []*ast.File{file})
}

// checker collects what in the package is outside the permitted part of Go.
type checker struct {
	set    *token.FileSet
	info   types.Info
	called map[*ast.Ident]bool
	signs  map[*ast.FuncType]bool
	faults []string
}

func faultsOf(set *token.FileSet, files []*ast.File) []string {
	c := checker{
		set:    set,
		called: map[*ast.Ident]bool{},
		signs:  map[*ast.FuncType]bool{},
		info:   types.Info{Types: map[ast.Expr]types.TypeAndValue{}, Uses: map[*ast.Ident]types.Object{}},
	}
	// There is no importer, as there is nothing to import.
	config := types.Config{Error: func(err error) { c.faults = append(c.faults, err.Error()) }}
	config.Check("impl", set, files, &c.info)
	for _, file := range files {
		if file.Name.Name != "impl" {
			c.tell(file, "a package that is not impl")
		}
		for _, decl := range file.Decls {
			c.checkDecl(decl)
		}
		ast.Inspect(file, func(n ast.Node) bool {
			if n != nil {
				c.checkNode(n)
			}
			return true
		})
	}
	return c.faults
}

func (c *checker) tell(n ast.Node, what string) {
	c.faults = append(c.faults, fmt.Sprintf("%s: %s", c.set.Position(n.Pos()), what))
}

func (c *checker) checkDecl(decl ast.Decl) {
	switch d := decl.(type) {
	case *ast.GenDecl:
		if d.Tok == token.VAR {
			c.tell(d, "a variable of the package")
		}
	case *ast.FuncDecl:
		c.signs[d.Type] = true
		if d.Recv == nil && d.Name.Name == "init" {
			c.tell(d, "a func init")
		}
		if d.Type.TypeParams != nil {
			c.tell(d, "a generic function")
		}
	}
}

// checkNode goes from calls to what they call, so a name that is called is known as such when it is reached.
func (c *checker) checkNode(n ast.Node) {
	if what := forbiddenKind(n); what != "" {
		c.tell(n, what)
	}
	switch x := n.(type) {
	case *ast.CallExpr:
		c.noteCalled(x.Fun)
	case *ast.Ident:
		c.checkName(x)
	case *ast.FuncType:
		if !c.signs[x] {
			c.tell(x, "a type of functions")
		}
	case *ast.AssignStmt:
		c.checkAssign(x)
	case *ast.BinaryExpr:
		if c.isNil(x.X) || c.isNil(x.Y) {
			c.tell(x, "a comparison with nil")
		}
	}
}

func forbiddenKind(n ast.Node) string {
	switch x := n.(type) {
	case *ast.ImportSpec:
		return "an import"
	case *ast.InterfaceType:
		return "an interface"
	case *ast.MapType:
		return "a map"
	case *ast.ChanType, *ast.SendStmt:
		return "a channel"
	case *ast.FuncLit:
		return "a closure"
	case *ast.GoStmt, *ast.SelectStmt, *ast.DeferStmt:
		return "a go, select or defer"
	case *ast.TypeSwitchStmt, *ast.TypeAssertExpr:
		return "a type switch or assertion"
	case *ast.TypeSpec:
		if x.TypeParams != nil {
			return "a generic type"
		}
	case *ast.BranchStmt:
		if x.Tok == token.GOTO {
			return "a goto"
		}
	case *ast.SliceExpr:
		if x.Slice3 {
			return "a slice expression with three indexes"
		}
	case *ast.BasicLit:
		if x.Kind == token.FLOAT || x.Kind == token.IMAG {
			return "a number that is not whole"
		}
	}
	return ""
}

func (c *checker) noteCalled(fun ast.Expr) {
	switch f := ast.Unparen(fun).(type) {
	case *ast.Ident:
		c.called[f] = true
	case *ast.SelectorExpr:
		c.called[f.Sel] = true
	}
}

func (c *checker) checkName(name *ast.Ident) {
	used := c.info.Uses[name]
	if used == nil {
		return
	}
	if _, isFunc := used.(*types.Func); isFunc && !c.called[name] {
		c.tell(name, "a function as a value")
	}
	if used.Parent() != types.Universe {
		return
	}
	switch name.Name {
	case "any", "error", "comparable", "panic", "recover", "cap",
		"float32", "float64", "complex64", "complex128", "complex", "real", "imag":
		c.tell(name, "the name "+name.Name)
	}
}

func (c *checker) checkAssign(assign *ast.AssignStmt) {
	if len(assign.Lhs) < 2 {
		return
	}
	for _, left := range assign.Lhs {
		if _, isName := left.(*ast.Ident); !isName {
			c.tell(left, "one of several assignments at once that is to no local")
		}
	}
}

func (c *checker) isNil(x ast.Expr) bool {
	return c.info.Types[x].IsNil()
}
