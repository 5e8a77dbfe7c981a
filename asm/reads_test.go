package asm_test

import (
	"cmp"
	"go/ast"
	"go/token"
	"go/types"
	"maps"
	"slices"
	"strings"
)

// cells are what may be read and written: variables, fields (of any object), elements by their type.
type cells map[any]struct{}

func (c cells) add(x any) { c[x] = struct{}{} }

func (c cells) meet(d cells) bool {
	for x := range c {
		if _, is := d[x]; is {
			return true
		}
	}
	return false
}

// element is of any list, map or array, or what any pointer points to, of that type.
type element string

func elementOf(t types.Type) element { return element(types.TypeString(t, nil)) }

// addParts adds what a value of a type is made of.
func (c cells) addParts(t types.Type) {
	switch u := t.Underlying().(type) {
	case *types.Struct:
		for f := range u.Fields() {
			c.add(f)
			c.addParts(f.Type())
		}
	case *types.Array:
		c.add(elementOf(u.Elem()))
		c.addParts(u.Elem())
	}
}

// look is what is known of a program's functions.
type look struct {
	*program
	decls   map[types.Object]ast.Node
	methods map[string][]ast.Node // by their names
	values  map[[2]int][]ast.Node // functions that are handed about, by how many they take and give
	escapes map[types.Object]struct{}
	writes  map[ast.Node]cells // of functions: what a call of them may write
}

// mix is a read and a call of one statement, the call writing what is read.
type mix struct {
	read ast.Expr
	call *ast.CallExpr
}

// mixed tells all of the program.
func (p *program) mixed() []mix {
	w := &look{p, map[types.Object]ast.Node{}, map[string][]ast.Node{}, map[[2]int][]ast.Node{}, map[types.Object]struct{}{}, map[ast.Node]cells{}}
	w.each(w.declare)
	w.each(w.hand)
	w.each(w.escape)
	w.solve()
	var l []mix
	w.each(func(n ast.Node) {
		for _, exprs := range together(n) {
			l = append(l, w.mixedIn(exprs)...)
		}
	})
	slices.SortFunc(l, func(a, b mix) int { return cmp.Compare(a.read.Pos(), b.read.Pos()) })
	return l
}

// each goes to all nodes.
func (w *look) each(visit func(n ast.Node)) {
	for _, f := range w.files {
		ast.Inspect(f, func(n ast.Node) bool {
			if n != nil {
				visit(n)
			}
			return true
		})
	}
}

func (w *look) declare(n ast.Node) {
	if d, is := n.(*ast.FuncDecl); is {
		w.decls[w.info.Defs[d.Name]] = d
		if d.Recv != nil {
			w.methods[d.Name.Name] = append(w.methods[d.Name.Name], d)
		}
	}
}

func shape(t types.Type) [2]int {
	s := t.Underlying().(*types.Signature)
	return [2]int{s.Params().Len(), s.Results().Len()}
}

// hand notes the functions that are values somewhere: literals, and names, whether they are called or not.
func (w *look) hand(n ast.Node) {
	switch x := n.(type) {
	case *ast.FuncLit:
		k := shape(w.info.TypeOf(x))
		w.values[k] = append(w.values[k], x)
	case *ast.CallExpr:
		for _, a := range x.Args {
			w.handOne(a)
		}
	case *ast.AssignStmt:
		for _, a := range x.Rhs {
			w.handOne(a)
		}
	case *ast.ReturnStmt:
		for _, a := range x.Results {
			w.handOne(a)
		}
	case *ast.ValueSpec:
		for _, a := range x.Values {
			w.handOne(a)
		}
	case *ast.CompositeLit:
		for _, a := range x.Elts {
			if kv, is := a.(*ast.KeyValueExpr); is {
				a = kv.Value
			}
			w.handOne(a)
		}
	}
}

func (w *look) handOne(e ast.Expr) {
	if f := w.named(e); f != nil && w.decls[f] != nil {
		k := shape(w.info.TypeOf(e))
		w.values[k] = append(w.values[k], w.decls[f])
	}
}

// named is the function that an expression names.
func (w *look) named(e ast.Expr) types.Object {
	switch x := ast.Unparen(e).(type) {
	case *ast.Ident:
		if f, is := w.info.Uses[x].(*types.Func); is {
			return f.Origin()
		}
	case *ast.SelectorExpr:
		return w.named(x.Sel)
	case *ast.IndexExpr:
		return w.named(x.X)
	case *ast.IndexListExpr:
		return w.named(x.X)
	}
	return nil
}

// own is the local variable in which a place itself lies, not behind a pointer.
func (w *look) own(e ast.Expr) *types.Var {
	switch x := ast.Unparen(e).(type) {
	case *ast.Ident:
		if v, is := w.info.ObjectOf(x).(*types.Var); is && !v.IsField() && v.Parent() != v.Pkg().Scope() {
			return v
		}
	case *ast.SelectorExpr:
		if s := w.info.Selections[x]; s != nil && s.Kind() == types.FieldVal && !s.Indirect() {
			return w.own(x.X)
		}
	case *ast.IndexExpr:
		if isType[*types.Array](w.info.TypeOf(x.X)) {
			return w.own(x.X)
		}
	}
	return nil
}

func isType[T types.Type](t types.Type) bool {
	if t == nil {
		return false
	}
	_, is := t.Underlying().(T)
	return is
}

// safe tells whether a place lies in a variable that only its own function writes.
func (w *look) safe(e ast.Expr) bool {
	v := w.own(e)
	if v == nil {
		return false
	}
	_, out := w.escapes[v]
	return !out
}

// receiver is the type that a method is of; byAddress: it is handed its object's address.
func receiver(s *types.Selection) types.Type { return s.Obj().(*types.Func).Signature().Recv().Type() }

func byAddress(s *types.Selection) bool { return isType[*types.Pointer](receiver(s)) }

func (w *look) out(e ast.Expr) {
	if v := w.own(e); v != nil {
		w.escapes[v] = struct{}{}
	}
}

// escape notes variables whose address is taken, or that a function within their own uses. (To fill an array by copy lets it be its function's own.)
func (w *look) escape(n ast.Node) {
	switch x := n.(type) {
	case *ast.UnaryExpr:
		if x.Op == token.AND {
			w.out(x.X)
		}
	case *ast.CallExpr:
		for i, a := range x.Args {
			if s, sliced := a.(*ast.SliceExpr); sliced && isType[*types.Array](w.info.TypeOf(s.X)) && !(w.builtin(x) == "copy" && i == 0) {
				w.out(s.X)
			}
		}
	case *ast.SelectorExpr:
		if s := w.info.Selections[x]; s != nil && s.Kind() == types.MethodVal && byAddress(s) && !isType[*types.Pointer](w.info.TypeOf(x.X)) {
			w.out(x.X)
		}
	case *ast.FuncLit:
		ast.Inspect(x.Body, func(m ast.Node) bool {
			if id, named := m.(*ast.Ident); named {
				if v, used := w.info.Uses[id].(*types.Var); used && (v.Pos() < x.Pos() || v.Pos() >= x.End()) {
					w.escapes[v] = struct{}{}
				}
			}
			return true
		})
	}
}

func (w *look) builtin(x *ast.CallExpr) string {
	if id, named := ast.Unparen(x.Fun).(*ast.Ident); named {
		if b, known := w.info.Uses[id].(*types.Builtin); known {
			return b.Name()
		}
	}
	return ""
}

func (w *look) isConversion(x *ast.CallExpr) bool { return w.info.Types[x.Fun].IsType() }

// mayBe are the functions of the program that a value may be.
func (w *look) mayBe(e ast.Expr) []ast.Node {
	if lit, literal := ast.Unparen(e).(*ast.FuncLit); literal {
		return []ast.Node{lit}
	}
	if f := w.named(e); f != nil {
		if d := w.decls[f]; d != nil {
			return []ast.Node{d}
		}
		if r := f.(*types.Func).Signature().Recv(); r != nil && types.IsInterface(r.Type()) {
			return w.methods[f.Name()]
		}
		return nil
	}
	if t := w.info.TypeOf(e); isType[*types.Signature](t) {
		return w.values[shape(t)]
	}
	return nil
}

// runs are the functions of the program that a call may run: itself, or those that it is handed.
func (w *look) runs(x *ast.CallExpr) []ast.Node {
	if w.builtin(x) != "" || w.isConversion(x) {
		return nil
	}
	l := slices.Clone(w.mayBe(x.Fun))
	for _, a := range x.Args {
		l = append(l, w.mayBe(a)...)
	}
	return l
}

// addCall adds what a call writes without a function of the program: the elements of lists and maps that the language or the library turns, what the library is handed by its address, its objects.
func (w *look) addCall(x *ast.CallExpr, c cells) {
	f := w.named(x.Fun)
	switch {
	case slices.Contains([]string{"copy", "delete", "clear"}, w.builtin(x)):
		if s, sliced := x.Args[0].(*ast.SliceExpr); !sliced || !w.safe(s.X) {
			w.addElements(x.Args[0], c)
		}
	case f == nil || w.decls[f] != nil || f.Pkg() == nil:
		return
	case f.Pkg().Path() == "slices" || f.Pkg().Path() == "sort" || f.Pkg().Path() == "maps":
		if strings.HasPrefix(f.Name(), "Sort") && !strings.HasPrefix(f.Name(), "Sorted") || slices.Contains([]string{"Reverse", "Delete", "DeleteFunc", "Insert", "Replace", "Compact", "CompactFunc", "Copy", "Slice", "SliceStable", "Stable", "Ints", "Strings"}, f.Name()) {
			w.addElements(x.Args[0], c)
		}
	}
	for _, a := range x.Args {
		if u, unary := ast.Unparen(a).(*ast.UnaryExpr); unary && u.Op == token.AND {
			w.addPlace(u.X, c)
		}
	}
	if s, selector := ast.Unparen(x.Fun).(*ast.SelectorExpr); selector && w.info.Selections[s] != nil && !types.IsInterface(w.info.TypeOf(s.X)) {
		w.addPlace(s.X, c)
	}
}

func (w *look) addElements(e ast.Expr, c cells) {
	var t types.Type
	switch u := w.info.TypeOf(e).Underlying().(type) {
	case *types.Slice:
		t = u.Elem()
	case *types.Map:
		t = u.Elem()
	default:
		return
	}
	c.add(elementOf(t))
	c.addParts(t)
}

// addPlace adds what is written where something is laid at a place.
func (w *look) addPlace(e ast.Expr, c cells) {
	if w.safe(e) {
		return
	}
	switch x := ast.Unparen(e).(type) {
	case *ast.Ident:
		if o := w.info.ObjectOf(x); x.Name != "_" && o != nil {
			c.add(o)
			c.add(elementOf(o.Type())) // a pointer may lead to it
		}
	case *ast.SelectorExpr:
		c.add(w.info.ObjectOf(x.Sel))
	case *ast.IndexExpr, *ast.StarExpr:
		c.add(elementOf(w.info.TypeOf(e)))
	}
	if t := w.info.TypeOf(e); t != nil {
		c.addParts(t)
	}
}

// solve finds what each function may write, itself or by what it runs. A function within another one counts as run by it.
func (w *look) solve() {
	runs := map[ast.Node][]ast.Node{}
	w.each(func(n ast.Node) {
		var body *ast.BlockStmt
		switch x := n.(type) {
		case *ast.FuncDecl:
			body = x.Body
		case *ast.FuncLit:
			body = x.Body
		}
		if body != nil {
			w.writes[n] = cells{}
			runs[n] = w.direct(body, w.writes[n])
		}
	})
	for again := true; again; {
		again = false
		for n, l := range runs {
			before := len(w.writes[n])
			for _, m := range l {
				maps.Copy(w.writes[n], w.writes[m])
			}
			again = again || len(w.writes[n]) > before
		}
	}
}

// direct adds what a body itself writes, and tells what it runs.
func (w *look) direct(body ast.Node, c cells) []ast.Node {
	var runs []ast.Node
	ast.Inspect(body, func(n ast.Node) bool {
		switch x := n.(type) {
		case *ast.FuncLit:
			runs = append(runs, x)
			return false
		case *ast.AssignStmt:
			for _, e := range x.Lhs {
				w.addPlace(e, c)
			}
		case *ast.IncDecStmt:
			w.addPlace(x.X, c)
		case *ast.RangeStmt:
			for _, e := range []ast.Expr{x.Key, x.Value} {
				if e != nil && x.Tok == token.ASSIGN {
					w.addPlace(e, c)
				}
			}
			runs = append(runs, w.mayBe(x.X)...)
		case *ast.CallExpr:
			w.addCall(x, c)
			runs = append(runs, w.runs(x)...)
		}
		return true
	})
	return runs
}

// operand is an expression of a statement; place: only its address is asked for.
type operand struct {
	e     ast.Expr
	place bool
}

func values(l ...ast.Expr) []operand {
	var all []operand
	for _, e := range l {
		if e != nil {
			all = append(all, operand{e, false})
		}
	}
	return all
}

// together tells the expressions of a statement that are reckoned with no order between them.
func together(n ast.Node) [][]operand {
	switch x := n.(type) {
	case *ast.ExprStmt:
		return [][]operand{values(x.X)}
	case *ast.AssignStmt:
		l := values(x.Rhs...)
		for _, e := range x.Lhs {
			if x.Tok != token.DEFINE {
				l = append(l, operand{e, x.Tok == token.ASSIGN})
			}
		}
		return [][]operand{l}
	case *ast.IncDecStmt:
		return [][]operand{values(x.X)}
	case *ast.ReturnStmt:
		return [][]operand{values(x.Results...)}
	case *ast.IfStmt:
		return [][]operand{values(x.Cond)}
	case *ast.ForStmt:
		return [][]operand{values(x.Cond)}
	case *ast.SwitchStmt:
		return [][]operand{values(x.Tag)}
	case *ast.CaseClause:
		var l [][]operand
		for _, e := range x.List {
			l = append(l, values(e))
		}
		return l
	case *ast.RangeStmt:
		return [][]operand{values(x.X)}
	case *ast.SendStmt:
		return [][]operand{values(x.Chan, x.Value)}
	case *ast.GoStmt:
		return [][]operand{values(x.Call)}
	case *ast.DeferStmt:
		return [][]operand{values(x.Call)}
	case *ast.ValueSpec:
		return [][]operand{values(x.Values...)}
	}
	return nil
}

// spot is an expression that is read, or a call, with all expressions around it, itself the last.
type spot struct {
	around []ast.Expr
	reads  cells         // nil: it is a call
	call   *ast.CallExpr // nil: it is read
}

func (s spot) self() ast.Expr { return s.around[len(s.around)-1] }

// inOrder tells whether the language says which of two spots comes first: one is within the other, or they stand on two sides of && or ||.
func inOrder(a, b spot) bool {
	i := 0
	for i < len(a.around) && i < len(b.around) && a.around[i] == b.around[i] {
		i++
	}
	if i == len(a.around) || i == len(b.around) {
		return true
	}
	if i == 0 {
		return false
	}
	two, binary := a.around[i-1].(*ast.BinaryExpr)
	return binary && (two.Op == token.LAND || two.Op == token.LOR)
}

// mixedIn tells the reads and calls of expressions that are reckoned together.
func (w *look) mixedIn(l []operand) []mix {
	var spots []spot
	for _, x := range l {
		w.spots(x.e, x.place, nil, &spots)
	}
	var told []mix
	for _, call := range spots {
		if call.call == nil {
			continue
		}
		writes := cells{}
		w.addCall(call.call, writes)
		for _, f := range w.runs(call.call) {
			maps.Copy(writes, w.writes[f])
		}
		for _, read := range spots {
			if read.call == nil && !inOrder(read, call) && read.reads.meet(writes) {
				told = append(told, mix{read.self(), call.call})
			}
		}
	}
	return told
}

// spots adds those of an expression.
func (w *look) spots(e ast.Expr, place bool, around []ast.Expr, all *[]spot) {
	around = append(slices.Clone(around), e)
	within := func(x ast.Expr, place bool) {
		if x != nil {
			w.spots(x, place, around, all)
		}
	}
	read := func(x any, t types.Type) {
		if place || w.safe(e) {
			return
		}
		c := cells{}
		c.add(x)
		c.addParts(t)
		*all = append(*all, spot{around: around, reads: c})
	}
	switch x := e.(type) {
	case *ast.Ident:
		if v, variable := w.info.Uses[x].(*types.Var); variable {
			read(v, v.Type())
		}
	case *ast.SelectorExpr:
		w.selected(x, within, read)
	case *ast.IndexExpr:
		within(x.X, isType[*types.Array](w.info.TypeOf(x.X)))
		within(x.Index, false)
		if w.named(x) == nil {
			read(elementOf(w.info.TypeOf(x)), w.info.TypeOf(x))
		}
	case *ast.StarExpr:
		within(x.X, false)
		read(elementOf(w.info.TypeOf(x)), w.info.TypeOf(x))
	case *ast.CallExpr:
		for _, a := range append([]ast.Expr{x.Fun}, x.Args...) {
			if !w.info.Types[a].IsType() {
				within(a, false)
			}
		}
		if !w.isConversion(x) {
			*all = append(*all, spot{around: around, call: x})
		}
	case *ast.ParenExpr:
		within(x.X, place)
	case *ast.SliceExpr:
		within(x.X, isType[*types.Array](w.info.TypeOf(x.X)))
		within(x.Low, false)
		within(x.High, false)
		within(x.Max, false)
	case *ast.UnaryExpr:
		within(x.X, x.Op == token.AND)
	case *ast.BinaryExpr:
		within(x.X, false)
		within(x.Y, false)
	case *ast.TypeAssertExpr:
		within(x.X, false)
	case *ast.KeyValueExpr:
		within(x.Value, false)
	case *ast.CompositeLit:
		for _, y := range x.Elts {
			if kv, keyed := y.(*ast.KeyValueExpr); keyed && isType[*types.Map](w.info.TypeOf(x)) {
				within(kv.Key, false)
			}
			within(y, false)
		}
	}
}

// selected is spots of a field, or of a method of what stands ahead of it.
func (w *look) selected(x *ast.SelectorExpr, within func(x ast.Expr, place bool), read func(x any, t types.Type)) {
	s := w.info.Selections[x]
	if s == nil { // of a package
		if v, variable := w.info.Uses[x.Sel].(*types.Var); variable {
			read(v, v.Type())
		}
		return
	}
	pointer := isType[*types.Pointer](w.info.TypeOf(x.X))
	if s.Kind() == types.FieldVal {
		within(x.X, !pointer)
		read(s.Obj(), s.Obj().Type())
		return
	}
	within(x.X, !pointer && byAddress(s))
	if of := receiver(s); pointer && !byAddress(s) { // what it points to is copied
		read(elementOf(of), of)
	}
}
