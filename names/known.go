package names

// known is a group by its name, and the maps that generate it, as texts.
type known struct {
	name, maps string
}

// knownGroups answers the known groups, in the order of their names' bytes.
func knownGroups() []known {
	return []known{
		{"C2", "x+1/2,y+1/2,z; -x,y,-z"},
		{"C2/c", "x+1/2,y+1/2,z; -x,y,-z+1/2; -x,-y,-z"},
		{"Fd-3m", "x,y+1/2,z+1/2; x+1/2,y,z+1/2; -x+3/4,-y+1/4,z+1/2; -x+1/4,y+1/2,-z+3/4; z,x,y; y+3/4,x+1/4,-z+1/2; -x,-y,-z"},
		{"Fddd", "x,y+1/2,z+1/2; x+1/2,y,z+1/2; -x+3/4,-y+3/4,z; -x+3/4,y,-z+3/4; -x,-y,-z"},
		{"Fm-3m", "x,y+1/2,z+1/2; x+1/2,y,z+1/2; -x,-y,z; -x,y,-z; z,x,y; y,x,-z; -x,-y,-z"},
		{"Ia-3d", "x+1/2,y+1/2,z+1/2; -x+1/2,-y,z+1/2; -x,y+1/2,-z+1/2; z,x,y; y+3/4,x+1/4,-z+1/4; -x,-y,-z"},
		{"P-1", "-x,-y,-z"},
		{"P1", ""},
		{"P2", "-x,y,-z"},
		{"P2/m", "-x,y,-z; -x,-y,-z"},
		{"P21", "-x,y+1/2,-z"},
		{"P21/c", "-x,y+1/2,-z+1/2; -x,-y,-z"},
		{"P212121", "-x+1/2,-y,z+1/2; -x,y+1/2,-z+1/2"},
		{"P222", "-x,-y,z; -x,y,-z"},
		{"P23", "-x,-y,z; -x,y,-z; z,x,y"},
		{"P3", "-y,x-y,z"},
		{"P31", "-y,x-y,z+1/3"},
		{"P4", "-y,x,z"},
		{"P4/mmm", "-y,x,z; -x,y,-z; -x,-y,-z"},
		{"P41", "-y,x,z+1/4"},
		{"P6", "x-y,x,z"},
		{"P63/mmc", "x-y,x,z+1/2; y,x,-z; -x,-y,-z"},
		{"Pc", "x,-y,z+1/2"},
		{"Pm", "x,-y,z"},
		{"Pm-3m", "-x,-y,z; -x,y,-z; z,x,y; y,x,-z; -x,-y,-z"},
		{"Pnma", "-x+1/2,-y,z+1/2; -x,y+1/2,-z; -x,-y,-z"},
		{"R3", "x+2/3,y+1/3,z+1/3; -y,x-y,z"},
	}
}
