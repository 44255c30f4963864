package yard

import "chiti/api"

// command is the sorts of the words of a command, by their letters, and what it does.
type command struct {
	sorts    string
	carryOut func(y *Yard, w words) (string, api.Errno)
}

// commands returns all commands by their names.
func commands() map[string]command {
	return map[string]command{
		"construct": {"nxxxx", (*Yard).construct},
		"step":      {"nt", (*Yard).step},
		"peg":       {"ni", (*Yard).peg},
		"corners":   {"nl", (*Yard).corners},
		"holds":     {"nwl", (*Yard).holds},
		"old":       {"w", (*Yard).old},
		"chain":     {"wii", (*Yard).chain},
		"off":       {"xii", (*Yard).off},
		"circle":    {"xxxi", (*Yard).circle},
		"ground":    {"n", (*Yard).ground},
		"part":      {"nt", (*Yard).part},
		"print":     {"n", (*Yard).print},
		"measure":   {"n", (*Yard).measure},
		"size":      {"nxxi", (*Yard).size},
		"lay":       {"nsl", (*Yard).lay},
		"tilings":   {"nsl", (*Yard).tilings},
		"layers":    {"nsli", (*Yard).layers},
		"wares":     {"li", (*Yard).wares},
		"mould":     {"ii", (*Yard).mould},
		"dry":       {"iii", (*Yard).dry},
		"laid":      {"ii", (*Yard).laid},
		"broke":     {"ii", (*Yard).broke},
		"replace":   {"ii", (*Yard).replace},
		"fire":      {"ll", (*Yard).fire},
		"draw":      {"l", (*Yard).draw},
		"count":     {"i", (*Yard).count},
		"use":       {"nsll", (*Yard).use},
		"need":      {"ill", (*Yard).need},
		"rite":      {"nii", (*Yard).rite},
		"act":       {"nnlliiiw", (*Yard).act},
		"begin":     {"n", (*Yard).begin},
		"do":        {"nin", (*Yard).do},
		"perform":   {"nin", (*Yard).perform},
		"open":      {"ni", (*Yard).open},
		"repair":    {"ni", (*Yard).repair},
		"scan":      {"t", (*Yard).scan},
		"gifts":     {"il", (*Yard).gifts},
		"borrow":    {"ill", (*Yard).borrow},
		"moon":      {"iii", (*Yard).newMoon},
		"falls":     {"i", (*Yard).falls},
		"school":    {"nli", (*Yard).school},
		"rule":      {"niill", (*Yard).rule},
		"decide":    {"nli", (*Yard).decide},
		"differ":    {"nni", (*Yard).differ},
	}
}
