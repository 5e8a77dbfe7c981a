package shell_test

import (
	"bytes"
	"crypto/sha256"
	"encoding/hex"
	"errors"
	"fmt"
	"maps"
	"regexp"
	"slices"
	"strconv"
	"strings"

	"retort/act"
	"retort/api"
	"retort/asm"
	"retort/cas"
	"retort/comp"
	"retort/diff"
	"retort/opt"
	"retort/path"
	"retort/prog"
	"retort/tongue"
	"retort/tree"
	"retort/work"
)

// The chapter written out once more: words by regular expressions, rows by texts, the tree under way by a map.

var (
	blanks = regexp.MustCompile(`^[ \t]+`)
	first  = regexp.MustCompile(`^(?:"((?:[^"\\]|\\[\\"nt]|\\x[0-9a-f]{2})*)"|([^ \t"#][^ \t"]*))(?:[ \t]|$)`)
	escape = regexp.MustCompile(`\\(?:[\\"nt]|x..)`)
)

func modelWords(line string) ([]string, bool) {
	var l []string
	for {
		line = blanks.ReplaceAllString(line, "")
		if line == "" || line[0] == '#' {
			return l, true
		}
		m := first.FindStringSubmatchIndex(line)
		if m == nil {
			return nil, false
		}
		if m[2] >= 0 {
			l = append(l, string(escape.ReplaceAllFunc([]byte(line[m[2]:m[3]]), modelEscape)))
		} else {
			l = append(l, line[m[4]:m[5]])
		}
		line = line[max(m[3]+1, m[5]):]
	}
}

func modelEscape(b []byte) []byte {
	switch b[1] {
	case 'n':
		return []byte{10}
	case 't':
		return []byte{9}
	case 'x':
		n, _ := strconv.ParseUint(string(b[2:]), 16, 8)
		return []byte{byte(n)}
	}
	return b[1:]
}

func modelQuote(b []byte) string {
	var s strings.Builder
	for _, c := range b {
		switch {
		case c == 9:
			s.WriteString(`\t`)
		case c == 10:
			s.WriteString(`\n`)
		case c == 34 || c == 92:
			s.WriteString(`\` + string(rune(c)))
		case c >= 32 && c <= 126:
			s.WriteByte(c)
		default:
			fmt.Fprintf(&s, `\x%02x`, c)
		}
	}
	return `"` + s.String() + `"`
}

var kinds = map[string]*regexp.Regexp{
	"n":    regexp.MustCompile(`^(?:[0-9]{1,15}|-0{0,14}[1-9][0-9]{0,14})$`),
	"NAME": regexp.MustCompile(`^[a-z]{1,8}$`),
	"REF":  regexp.MustCompile(`^(?:[a-z]{1,8}|[0-9a-f]{64})$`),
}

// rows are the table's first column.
var rows = []string{
	"store n n n", "sum B", "put NAME B", "evict REF", "plant REF B", "limit n", "dir P", "file P B", "drop P", "tree NAME", "asm NAME T", "comp NAME n T", "opt NAME REF",
	"act NAME REF REF n n n n n n n n n P..", "do REF", "pick n", "farm n", "exec REF", "answers", "queue", "cached", "used", "show REF", "diff REF REF", "text REF", "raw REF",
}

// fits tells whether words are what a row says.
func fits(row string, words []string) bool {
	signs := strings.Fields(row)
	if strings.HasSuffix(row, "..") {
		signs = signs[:len(signs)-1]
		words = words[:min(len(words), len(signs))]
	}
	if len(words) != len(signs) || words[0] != signs[0] {
		return false
	}
	for i, sign := range signs[1:] {
		if is := kinds[sign]; is != nil && (!is.MatchString(words[i+1]) || sign == "n" && len(strings.TrimLeft(words[i+1], "-")) > 15) {
			return false
		}
	}
	return true
}

// model is what a script has come to.
type model struct {
	w     *work.Worker
	width int
	items map[string]api.Item
	names map[string]api.Digest
}

// modelRun is Run, and the lines of what it tells.
func modelRun(script string) (string, []string) {
	if len(script) > 65536 {
		return "long\n", nil
	}
	var lines []string
	for script != "" {
		line, rest, _ := strings.Cut(script, "\n")
		lines = append(lines, line)
		script = rest
	}
	if len(lines) > 512 {
		return "long\n", nil
	}
	m := &model{}
	told := ""
	var l []string
	for _, line := range lines {
		x := m.line(line)
		if len(x) > 131072 {
			x = "long"
		}
		l = append(l, x)
		told += x + "\n"
	}
	return told, l
}

func (m *model) line(line string) string {
	words, right := modelWords(line)
	if !right {
		return "word"
	}
	if len(words) == 0 {
		return ""
	}
	i := slices.IndexFunc(rows, func(row string) bool { return fits(row, words) })
	if i < 0 {
		return "word"
	}
	if i > 0 && m.w == nil {
		return "none"
	}
	var d []api.Digest
	for j, sign := range strings.Fields(rows[i]) {
		if sign != "REF" {
			continue
		}
		b, _ := hex.DecodeString(words[j])
		x, there := m.names[words[j]]
		if len(words[j]) == 64 {
			x, there = api.Digest(b), true
		}
		if !there {
			return "none"
		}
		d = append(d, x)
	}
	return m.row(words, d)
}

func n(word string) int {
	x, err := strconv.Atoi(word)
	if err != nil {
		panic(err)
	}
	return x
}

// tell is pieces with a blank between: an error alone, if there is one.
func tell(e api.Errno, pieces ...any) string {
	if e != 0 {
		return e.Error()
	}
	l := []string{"ok"}
	size := 0
	for _, x := range pieces {
		switch y := x.(type) {
		case api.Digest:
			l = append(l, hex.EncodeToString(y[:]))
		case []byte:
			l = append(l, modelQuote(y))
		case []api.Digest:
			for _, d := range y {
				l = append(l, hex.EncodeToString(d[:]))
			}
		default:
			l = append(l, fmt.Sprint(y))
		}
		if size += len(l[len(l)-1]); size > 131072 {
			break // it is too long already
		}
	}
	return strings.Join(l, " ")
}

func (m *model) digest(b []byte) api.Digest {
	d := sha256.Sum256(b)
	clear(d[m.width:])
	return d
}

// put is VPut, and a name for what was put.
func (m *model) put(name string, b []byte, e api.Errno) string {
	if e == 0 {
		e = m.w.Do(api.Event{Kind: api.VPut, B: b})
	}
	if e == 0 {
		m.names[name] = m.digest(b)
	}
	return tell(e, m.digest(b))
}

func (m *model) putProgram(name string, p api.Program, e api.Errno) string {
	if e != 0 {
		return tell(e)
	}
	b, e := prog.Encode(p)
	return m.put(name, b, e)
}

func (m *model) program(d api.Digest) (api.Program, api.Errno) {
	b, e := m.w.Store().Get(d)
	if e != 0 {
		return api.Program{}, e
	}
	return prog.Decode(b)
}

func (m *model) row(words []string, d []api.Digest) string {
	last := words[len(words)-1]
	switch words[0] {
	case "store":
		return m.store(n(words[1]), n(words[2]), n(words[3]))
	case "sum":
		return tell(0, api.Digest(sha256.Sum256([]byte(last))))
	case "put":
		return m.put(words[1], []byte(last), 0)
	case "evict":
		return tell(m.w.Do(api.Event{Kind: api.VEvict, D: d[0]}))
	case "plant":
		return tell(m.w.Do(api.Event{Kind: api.VPlant, D: d[0], B: []byte(last)}))
	case "limit":
		return tell(m.w.Do(api.Event{Kind: api.VLimit, N: n(last)}))
	case "dir", "file", "drop":
		return m.edit(words)
	case "tree":
		return m.tree(last)
	case "asm", "comp", "opt", "act":
		return m.make(words, d)
	case "do":
		return tell(m.w.Do(api.Event{Kind: api.VDo, D: d[0]}))
	case "pick":
		e := m.w.Do(api.Event{Kind: api.VPick, N: n(last)})
		if e != 0 {
			return tell(e)
		}
		l := m.w.Answers()
		return modelAnswer(l[len(l)-1])
	case "farm":
		l, e := m.w.Farm(n(last))
		return tell(e, len(l))
	case "exec":
		b, e := act.Exec(m.w.Store(), d[0])
		return modelAnswer(api.Answer{Err: e, Result: b})
	}
	return m.ask(words[0], d)
}

// ask is of rows that change nothing.
func (m *model) ask(name string, d []api.Digest) string {
	s := m.w.Store()
	room := api.Room{Nodes: 1 << 16, Depth: 32, Bytes: 1 << 26}
	switch name {
	case "answers":
		l := m.w.Answers()
		all := len(l)
		return tell(0, all, len(slices.DeleteFunc(l, func(x api.Answer) bool { return !x.Cached })))
	case "queue":
		return tell(0, m.w.Queue())
	case "cached":
		return tell(0, m.w.Cached())
	case "used":
		return tell(0, s.Len(), s.Used())
	case "show":
		l, e := tree.Load(s, d[0], room)
		var told []any
		for _, x := range l {
			told = append(told, []byte(x.Path), any(x.Data))
			if x.Dir {
				told[len(told)-1] = "/"
			}
		}
		return tell(e, told...)
	case "diff":
		l, e := diff.Between(s, d[0], d[1], room)
		var told []any
		for _, x := range l {
			told = append(told, []string{"", "add", "drop", "edit"}[x.Kind], []byte(x.Path))
		}
		return tell(e, told...)
	case "text":
		p, e := m.program(d[0])
		if e != 0 {
			return tell(e)
		}
		text, e := asm.Print(p)
		return tell(e, []byte(text))
	}
	b, there := s.Raw(d[0])
	if !there {
		return "missing"
	}
	return tell(0, b)
}

func (m *model) store(width, capacity, cache int) string {
	s, e := cas.New(width, capacity)
	if e != 0 {
		return tell(e)
	}
	w, e := work.New(s, cache)
	if e == 0 {
		*m = model{w, width, map[string]api.Item{}, map[string]api.Digest{}}
	}
	return tell(e)
}

func (m *model) edit(words []string) string {
	p, e := path.Clean(words[1])
	if e != 0 {
		return tell(e)
	}
	if p == "" {
		return "root"
	}
	maps.DeleteFunc(m.items, func(q string, _ api.Item) bool { return q == p || strings.HasPrefix(q, p+"/") })
	switch words[0] {
	case "dir":
		m.items[p] = api.Item{Path: p, Dir: true}
	case "file":
		m.items[p] = api.Item{Path: p, Data: []byte(words[2])}
	}
	return "ok"
}

// byParts is W4.
func byParts(a, b api.Item) int {
	return slices.Compare(strings.Split(a.Path, "/"), strings.Split(b.Path, "/"))
}

func (m *model) tree(name string) string {
	root, blobs, e := tree.Build(m.width, slices.SortedFunc(maps.Values(m.items), byParts))
	if e != 0 {
		return tell(e)
	}
	for _, b := range blobs {
		if e := m.w.Do(api.Event{Kind: api.VPut, B: b}); e != 0 {
			return tell(e)
		}
	}
	m.names[name] = root
	return tell(0, root)
}

func (m *model) make(words []string, d []api.Digest) string {
	last := words[len(words)-1]
	switch words[0] {
	case "asm":
		p, err := asm.Parse(last)
		if err != nil {
			return modelFault(err)
		}
		return m.putProgram(words[1], p, 0)
	case "comp":
		u, e, at := tongue.Parse(last)
		if e != 0 {
			return fmt.Sprint("at ", at, " ", e)
		}
		p, e := comp.Compile(u, n(words[2]))
		return m.putProgram(words[1], p, e)
	case "opt":
		p, e := m.program(d[0])
		if e != 0 {
			return tell(e)
		}
		p, e = opt.Run(p)
		return m.putProgram(words[1], p, e)
	}
	x := words[4:13]
	b, e := act.Encode(api.Action{
		Program: d[0], Input: d[1], Keep: words[13:], Fresh: n(x[8]) != 0,
		Limits: api.Limits{Fuel: n(x[0]), Memory: n(x[1]), Stack: n(x[2]), Bytes: n(x[3]), Files: n(x[4]), Open: n(x[5]), Nodes: n(x[6]), Depth: n(x[7])},
	})
	return m.put(words[1], b, e)
}

func modelFault(err error) string {
	le, is := err.(*asm.LineError)
	if !is {
		panic(err)
	}
	word := errors.Unwrap(err).Error()
	if le.Line == 0 {
		return word
	}
	return fmt.Sprint("line ", le.Line, " ", word)
}

// modelAnswer is P2104.
func modelAnswer(x api.Answer) string {
	if x.Err != 0 {
		return x.Err.Error()
	}
	r, e := act.DecodeResult(x.Result)
	if e != 0 {
		panic(e)
	}
	s := fmt.Sprintf("trap %s %d %d", r.Trap.Word(), r.Code, r.Fuel)
	if r.End == 1 {
		s = fmt.Sprintf("halt %d %d %x", r.Code, r.Fuel, r.Root)
		for _, p := range r.Missing {
			s += " " + modelQuote([]byte(p))
		}
	}
	if x.Cached {
		s = "cached " + s
	}
	return s
}

// same tells whether bytes are those of a text: for what is handed in.
func same(b []byte, s string) bool { return bytes.Equal(b, []byte(s)) }
