package effect

import (
	"zeitnot/api"
	"zeitnot/sat"
)

// Sets of target kinds, with a bit for each kind.
const (
	nobody    = 1 << api.TargetNone
	creatures = 1<<api.TargetCreature | 1<<api.TargetOwn | 1<<api.TargetOther
	players   = 1 << api.TargetPlayer
	either    = 1 << api.TargetEither
	spells    = 1 << api.TargetSpell
)

// The places of numbers.
const (
	placeN      = 0
	placeM      = 1
	placeColour = 2
)

// numbers are the numbers of an effect, by their places.
type numbers [3]int

// rule is what a code allows.
type rule interface {
	word() string
	aims(kind api.TargetKind) bool
}

// numbered is what a rule is, too, if its effects have numbers.
type numbered interface {
	mentions(place int) bool
	fits(l numbers) bool
}

// plain is the rule of effects without numbers: their word, and a set of target kinds.
type plain struct {
	name  string
	kinds uint
}

// ranged is the rule of effects with numbers, each of them from a least to a greatest one; the greatest one of those that are not mentioned is 0.
type ranged struct {
	plain
	least, most numbers
}

// some is the rule of effects with numbers of which at least one is not 0.
type some struct{ ranged }

// ruleOf returns what a code allows; what is no code allows no target kind.
func ruleOf(code api.EffectCode) rule {
	switch code {
	case api.EffectDamage:
		return ranged{plain{"damage", creatures | players | either}, numbers{1}, numbers{99}}
	case api.EffectDraw:
		return ranged{plain{"draw", nobody | players}, numbers{1}, numbers{7}}
	case api.EffectGain:
		return ranged{plain{"gain", nobody | players}, numbers{1}, numbers{99}}
	case api.EffectLose:
		return ranged{plain{"lose", nobody | players}, numbers{1}, numbers{99}}
	case api.EffectDestroy:
		return plain{"destroy", creatures}
	case api.EffectReturn:
		return plain{"return", creatures}
	case api.EffectCounter:
		return plain{"counter", spells}
	case api.EffectPump:
		return some{ranged{plain{"pump", nobody | creatures}, numbers{}, numbers{9, 9}}}
	case api.EffectCounters:
		return ranged{plain{"counters", nobody | creatures}, numbers{1}, numbers{9}}
	case api.EffectToken:
		return ranged{plain{"token", nobody}, numbers{0, 1}, numbers{9, 9}}
	case api.EffectTap:
		return plain{"tap", creatures}
	case api.EffectMana:
		return ranged{plain{"mana", nobody}, numbers{1}, numbers{placeN: 9, placeColour: api.Colours - 1}}
	}
	return plain{}
}

// numbersOf returns the numbers of an effect.
func numbersOf(e api.Effect) numbers {
	return numbers{placeN: e.N, placeM: e.M, placeColour: int(e.Colour)}
}

// word returns the word that the text of an effect begins with.
func (r plain) word() string { return r.name }

// aims says whether a target kind is allowed.
func (r plain) aims(kind api.TargetKind) bool {
	return kind >= 0 && r.kinds>>kind&1 == 1
}

// mentions says whether there is a number at a place.
func (r ranged) mentions(place int) bool { return r.most[place] > 0 }

// fits says whether numbers are allowed.
func (r ranged) fits(l numbers) bool {
	for i, n := range l {
		if n < r.least[i] || n != sat.Clamp(n, r.most[i]) {
			return false
		}
	}
	return true
}

// fits says whether numbers are allowed.
func (r some) fits(l numbers) bool {
	return l != numbers{} && r.ranged.fits(l)
}
