package console

// Told and ToldEntries are asked of what no vault answers, too.
var (
	Told        = told
	ToldEntries = toldEntries
)
