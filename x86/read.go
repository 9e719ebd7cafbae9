package x86

import (
	"strings"

	"spokeshave/api"
)

// variable is a piece of the machine's memory; at: where it lies, from DataBase on.
type variable struct {
	at, size int64
}

// datum is what stands in a variable: bytes of a number, or, with target told, the address of an instruction.
type datum struct {
	name   string
	at     int64
	bytes  int64
	n      int64
	target string
}

// reader goes over lines. labels: which instruction stands behind each; refs: the line of each instruction, and of each datum.
type reader struct {
	code   *Code
	labels map[string]int
	vars   map[string]int
	data   []datum
	lines  []int
	places []int
	bad    int
}

// Read answers the code of lines, or where they are wrong.
func Read(s string) (*Code, api.Wrong) {
	r := &reader{code: &Code{text: strings.Clone(s)}, labels: map[string]int{}, vars: map[string]int{}, bad: len(s) + 1}
	for at := 0; at < len(s); {
		end := strings.IndexByte(s[at:], '\n')
		if end < 0 {
			r.fail(at)
			break
		}
		if !r.line(s[at:at+end], at) {
			r.fail(at)
		}
		at += end + 1
	}
	r.resolve()
	if r.bad <= len(s) {
		return nil, api.Wrong{Code: api.ErrForm, At: r.bad}
	}
	main, ok := r.labels["main"]
	if !ok {
		return nil, api.Wrong{Code: api.ErrMain, At: len(s)}
	}
	r.code.main = main
	return r.code, api.Wrong{}
}

// fail keeps the first line that is none.
func (r *reader) fail(at int) { r.bad = min(r.bad, at) }

// line takes in a line; false, if it is none, or makes a name again.
func (r *reader) line(s string, at int) bool {
	if strings.HasPrefix(s, "\t") {
		i, ok := readIns(s[1:])
		if ok {
			r.code.ins = append(r.code.ins, i)
			r.lines = append(r.lines, at)
		}
		return ok
	}
	if name, ok := strings.CutSuffix(s, ":"); ok && nameOK(name) {
		if r.made(name) {
			return false
		}
		r.labels[name] = len(r.code.ins)
		return true
	}
	return r.dataLine(strings.Split(s, " "), at)
}

// made tells whether a name is made already.
func (r *reader) made(name string) bool {
	_, a := r.labels[name]
	_, b := r.vars[name]
	return a || b
}

func (r *reader) dataLine(parts []string, at int) bool {
	if len(parts) < 3 || !nameOK(parts[1]) {
		return false
	}
	n, ok := decimal(parts[2])
	if !ok || n < 0 {
		return false
	}
	if parts[0] == ".data" {
		if len(parts) != 3 || n < 1 || n > api.MaxBytes || r.made(parts[1]) {
			return false
		}
		r.vars[parts[1]] = len(r.code.vars)
		r.code.vars = append(r.code.vars, variable{at: r.code.size, size: n})
		r.code.size += (n + 15) / 16 * 16
		return true
	}
	if len(parts) != 4 {
		return false
	}
	d := datum{name: parts[1], at: n, bytes: 8}
	switch parts[0] {
	case ".quad":
		d.n, ok = decimal(parts[3])
	case ".byte":
		d.bytes = 1
		d.n, ok = decimal(parts[3])
		ok = ok && d.n >= 0 && d.n <= 255
	case ".addr":
		d.target = parts[3]
		ok = nameOK(d.target)
	default:
		return false
	}
	if ok {
		r.data = append(r.data, d)
		r.places = append(r.places, at)
	}
	return ok
}

// resolve gives all names that are told what they stand for.
func (r *reader) resolve() {
	for k := range r.code.ins {
		i := &r.code.ins[k]
		if !r.operand(&i.src, i.op) || !r.operand(&i.dst, i.op) {
			r.fail(r.lines[k])
		}
		if i.dst.kind == label {
			i.to = r.labels[i.dst.name]
		}
	}
	for k, d := range r.data {
		v, ok := r.vars[d.name]
		if !ok || d.at > r.code.vars[v].size-d.bytes {
			r.fail(r.places[k])
			continue
		}
		w := write{at: r.code.vars[v].at + d.at, bytes: d.bytes, n: d.n}
		if d.target != "" {
			to, ok := r.labels[d.target]
			if !ok {
				r.fail(r.places[k])
			}
			w.n = api.CodeBase + int64(to)
		}
		r.code.first = append(r.code.first, w)
	}
}

// operand gives an operand's name what it stands for; false, if that is nowhere.
func (r *reader) operand(o *operand, op int) bool {
	switch o.kind {
	case label:
		_, ok := r.labels[o.name]
		return ok
	case near:
		if v, ok := r.vars[o.name]; ok {
			o.n += api.DataBase + r.code.vars[v].at
			return true
		}
		to, ok := r.labels[o.name]
		o.n += api.CodeBase + int64(to)
		return ok && op == opLea && o.n == api.CodeBase+int64(to)
	}
	return true
}
