package whole

import "facetroom/api"

// signs tell of two numbers which are below 0.
type signs [2]bool

func signsOf(a, b api.Int) signs { return signs{a.Neg, b.Neg} }

// unlike tells whether just one of two numbers is below 0.
func unlike(a, b api.Int) bool {
	both := signsOf(a, b)
	return both == signs{true, false} || both == signs{false, true}
}

// signed is the number of that Abs, below 0 if neg; 0 is below 0 in no case.
func signed(neg bool, abs api.Nat) api.Int {
	if len(abs) == 0 {
		return api.Int{}
	}
	return api.Int{Neg: neg, Abs: abs}
}

// opposite is a, the other way round, in a's own memory.
func opposite(a api.Int) api.Int { return signed(!a.Neg, a.Abs) }
