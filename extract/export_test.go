package extract

// What no call leads to without two texts of one digest, for the tests.
var (
	MapTexts  = mapTexts
	MapsApart = mapsApart
	Apart     = apart
	Parted    = parted
)
