package console

import "slices"

// need is what a command needs; those from aVault on need a vault too.
type need int

const (
	nothing need = iota
	aDisk
	aVault
	aSession
	aMirror
)

// command is one that a line may begin with.
type command struct {
	name  string
	takes [][]kind // the arguments, once for each number of them that it takes
	needs need
	play  func(*Console, []argument) (string, error)
}

// commands are all that there are.
func commands() []command {
	return []command{
		{"disk", [][]kind{{anInt, anInt}}, nothing, (*Console).makeDisk},
		{"format", [][]kind{{anInt, anInt}}, aDisk, (*Console).formatDisk},
		{"open", [][]kind{{}}, aDisk, (*Console).openVault},
		{"close", [][]kind{{}}, aVault, (*Console).closeVault},
		{"begin", [][]kind{{aWord}, {aWord, aNumber}}, aVault, (*Console).begin},
		{"put", [][]kind{{aWord, aWord, aWord}}, aSession, (*Console).put},
		{"del", [][]kind{{aWord, aWord}}, aSession, (*Console).del},
		{"get", [][]kind{{aWord, aWord}}, aSession, (*Console).get},
		{"range", [][]kind{{aWord, aWord, aWord, anInt}}, aSession, (*Console).entries},
		{"commit", [][]kind{{aWord}}, aSession, (*Console).commit},
		{"abort", [][]kind{{aWord}}, aSession, (*Console).abort},
		{"versions", [][]kind{{}}, aVault, (*Console).versions},
		{"root", [][]kind{{aNumber}}, aVault, (*Console).root},
		{"at", [][]kind{{aNumber, aWord}}, aVault, (*Console).at},
		{"scan", [][]kind{{aNumber, aWord, aWord, anInt}}, aVault, (*Console).scan},
		{"diff", [][]kind{{aNumber, aNumber}}, aVault, (*Console).diff},
		{"prove", [][]kind{{aNumber, aWord, aWord}}, aVault, (*Console).prove},
		{"check", [][]kind{{aSum, aWord, aWord, aProof}}, nothing, (*Console).check},
		{"head", [][]kind{{}}, aVault, (*Console).head},
		{"shown", [][]kind{{aNumber}}, aVault, (*Console).shown},
		{"grown", [][]kind{{aNumber, aSum}}, aVault, (*Console).grown},
		{"retain", [][]kind{{anInt}}, aVault, (*Console).retain},
		{"compact", [][]kind{{}}, aVault, (*Console).compact},
		{"fuse", [][]kind{{anInt}}, aDisk, (*Console).fuse},
		{"crash", [][]kind{{}, {aKeep}, {aKeep, anInt, anInt}}, aDisk, (*Console).crash},
		{"rot", [][]kind{{anInt, anInt, aMask}}, aDisk, (*Console).rot},
		{"audit", [][]kind{{anInt}}, aDisk, (*Console).audit},
		{"stats", [][]kind{{}}, aDisk, (*Console).stats},
		{"image", [][]kind{{}}, aDisk, (*Console).image},
		{"mirror", [][]kind{{anInt, anInt, anInt, anInt}}, aVault, (*Console).makeMirror},
		{"sync", [][]kind{{}}, aMirror, (*Console).sync},
		{"lie", [][]kind{{aNumber, aMask}}, aMirror, (*Console).lie},
		{"copy", [][]kind{{aWord}}, aMirror, (*Console).copied},
		{"trusted", [][]kind{{}}, aMirror, (*Console).trusted},
	}
}

// commandOf is the command of a name.
func commandOf(name string) (command, bool) {
	l := commands()
	i := slices.IndexFunc(l, func(c command) bool { return c.name == name })
	if i < 0 {
		return command{}, false
	}
	return l[i], true
}

// read is words as a command's arguments; false: it does not take them.
func (c command) read(words []string) ([]argument, bool) {
	i := slices.IndexFunc(c.takes, func(kinds []kind) bool { return len(kinds) == len(words) })
	if i < 0 {
		return nil, false
	}
	var l []argument
	for place, must := range c.takes[i] {
		a, ok := argumentOf(words[place], must)
		if !ok {
			return nil, false
		}
		l = append(l, a)
	}
	return l, true
}
