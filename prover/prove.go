package prover

import (
	"slices"

	"attestor/api"
	"attestor/argument"
	"attestor/channel"
	"attestor/compose"
	"attestor/field"
	"attestor/lowdegree"
	"attestor/system"
	"attestor/tree"
)

// How many salts and how many nonces are tried.
const (
	salts  = 1000
	nonces = 1 << 20
)

// Prove returns a proof that a system holds of a trace.
func Prove(s api.System, p api.Params, t api.Trace) (api.Proof, api.Errno) {
	if !Possible(s, p) || !system.Fits(s, t) {
		return api.Proof{}, api.ErrArg
	}
	if holds, _ := system.Holds(s, t); !holds {
		return api.Proof{}, api.ErrNone
	}
	m := begun(s, p, t)
	if !m.argue(s, t) {
		return api.Proof{}, api.ErrFull
	}
	m.compose(s)
	m.fold()
	if !m.grind() {
		return api.Proof{}, api.ErrFull
	}
	m.open()
	return m.proof, api.OK
}

// A making is a proof in the making, with what is known of its columns, and the channel so far.
type making struct {
	api.Wide
	comp    [][]uint64 // the wide columns of the composition
	trees   struct{ fixed, main, aux, comp api.Tree }
	low     api.LowState
	key     api.Key
	channel api.Channel
	proof   api.Proof
}

// begun returns the proof that has the main columns.
func begun(s api.System, p api.Params, t api.Trace) *making {
	m := &making{Wide: api.Wide{Blow: p.Blow, Fixed: widened(s, p, s.Fixed), Main: widened(s, p, t.Main), Public: t.Public}}
	m.trees.fixed = treeOf(s.Field, m.Fixed, p.Cap)
	m.key = keyOf(s, p, m.trees.fixed)
	m.channel, _ = Begin(m.key, t.Public) // no error: the key is valid, and the trace fits
	m.trees.main, m.proof.Main = m.commit(m.Main)
	return m
}

// commit returns the tree of wide columns and its cap, which is absorbed.
func (m *making) commit(columns [][]uint64) (api.Tree, []api.Digest) {
	t := treeOf(m.key.Shape.Field, columns, m.key.Params.Cap)
	cap := tree.Cap(t)
	m.channel = channel.AbsorbCap(m.channel, cap)
	return t, cap
}

// draw returns the next challenge.
func (m *making) draw() uint64 {
	var x uint64
	m.channel, x = channel.Draw(m.channel)
	return x
}

// argue adds the argument columns, and reports whether there is a salt for them.
func (m *making) argue(s api.System, t api.Trace) bool {
	if argument.Count(s) == 0 {
		m.channel = channel.Absorb(m.channel, 0)
		return true
	}
	before := m.channel
	for salt := range min(salts, field.P(s.Field)) {
		m.channel = channel.Absorb(before, salt)
		c, d := m.draw(), m.draw()
		columns, e := argument.Columns(s, t, c, d)
		if e != api.OK {
			continue
		}
		m.Challenge, m.proof.Salt = []uint64{c, d}, salt
		m.Aux = widened(s, m.key.Params, columns)
		m.trees.aux, m.proof.Aux = m.commit(m.Aux)
		return true
	}
	return false
}

// compose adds the columns of the composition.
func (m *making) compose(s api.System) {
	m.comp, _ = compose.Columns(s, m.Wide, m.draw()) // no error: the system holds of the trace
	m.trees.comp, m.proof.Comp = m.commit(m.comp)
}

// fold adds the low-degree test of all columns together.
func (m *making) fold() {
	word := m.combination(m.draw())
	low, _ := Low(m.key)
	m.low, m.channel, _ = lowdegree.Commit(low, word, m.channel) // no error: all columns are of so low a degree
	m.proof.Rounds, m.proof.Final = m.low.Proof.Caps, m.low.Proof.Final
}

// combination returns the sum of all columns, each times a power of a challenge.
func (m *making) combination(e uint64) []uint64 {
	f := m.key.Shape.Field
	out := make([]uint64, 1<<height(m.key.Shape, m.key.Params))
	for _, column := range slices.Backward(slices.Concat(m.Main, m.Aux, m.Fixed, m.comp)) {
		for i, x := range column {
			out[i] = field.Add(f, x, field.Mul(f, e, out[i]))
		}
	}
	return out
}

// grind adds the nonce, and reports whether there is one.
func (m *making) grind() bool {
	bits := m.key.Params.Grind
	nonce, ok := channel.Search(m.channel, bits, nonces)
	m.channel, _ = channel.Grind(m.channel, nonce, bits)
	m.proof.Nonce = nonce
	return ok
}

// open adds the openings of the positions that are drawn.
func (m *making) open() {
	opening := m.opener()
	for range m.key.Params.Queries {
		var i int
		m.channel, i = channel.Position(m.channel, height(m.key.Shape, m.key.Params))
		m.proof.Openings = append(m.proof.Openings, opening(i))
	}
}

// opener returns the function that opens a position.
func (m *making) opener() func(i int) api.Opening {
	row := func(columns [][]uint64, t api.Tree, i int) ([]uint64, []api.Digest) {
		path, _ := tree.Path(t, i) // an error if there are no columns: the path is empty then, as it must be
		return across(columns, i), path
	}
	return func(i int) api.Opening {
		var o api.Opening
		next := (i + 1<<m.Blow) % len(m.Main[0])
		o.Fixed, o.FixedPath = row(m.Fixed, m.trees.fixed, i)
		o.Main, o.MainPath = row(m.Main, m.trees.main, i)
		o.Aux, o.AuxPath = row(m.Aux, m.trees.aux, i)
		o.Comp, o.CompPath = row(m.comp, m.trees.comp, i)
		o.MainNext, o.MainNextPath = row(m.Main, m.trees.main, next)
		o.AuxNext, o.AuxNextPath = row(m.Aux, m.trees.aux, next)
		low, _ := lowdegree.Open(m.low, i) // no error: the state is one of Commit
		for round, leaf := range low.Leaves {
			o.Folds = append(o.Folds, api.FoldOpening{Values: leaf, Path: low.Paths[round]})
		}
		return o
	}
}
