/-
  Lemmas that the theorem of this claim rests on: 1 texts, one behind the other.
-/
import Derived.Test.YtmobilppakjihaaDoorM29
set_option linter.unusedSimpArgs false
set_option linter.unusedVariables false
/-
  PatsTimes: the comparison of six truth values (one statement of the loop), second.
-/
namespace Go.Proofs.YtmobilppakjihaaDoor
open Go.RowKit Go.Sort
set_option maxRecDepth 100000 in
set_option maxHeartbeats 8000000 in
theorem reg23_b (L i y : Nat) (hi : i ≤ L) (hy : y ≤ L) (lb1 lc1 lb2 lc2 lb3 lc3 lb4 lc4 lb5 lc5 lb6 lc6 : Nat) (wr : World) (hs : Six L i y wr false false true lb1 lb2 lb3 lb4 lb5 lb6) (x0 x1 x2 x3 x4 x5 x6 x7 x8 x9 x11 x13 x15 x17 x19 x21 x24 x25 x26 x27 x28 x29 x30 x31 x32 x33 x34 x35 x36 x37 x38 x39 x40 x41 x42 x43 x44 x45 x46 x47 x48 x49 x50 x51 x52 x53 x54 x55 x56 x57 x58 x59 x60 x61 x62 x63 x64 x65 x66 x67 x68 x69 x70 x71 x72 x73 x74 x75 x76 x77 x78 x79 x80 x81 x82 x83 x84 x85 x86 x87 x88 x89 x90 x91 x92 x93 x94 x95 x96 x97 x98 x99 x100 x101 x102 x103 x104 x105 x106 x107 x108 x109 x110 x111 x112 x113 x114 x115 x116 x117 x118 x119 x120 x121 x122 x123 x124 x125 x126 x127 x128 x129 x130 x131 x132 x133 x134 x135 x136 x137 x138 x139 x140 x141 x142 x143 x144 x145 x146 x147 x148 x149 x150 x151 x152 x153 x154 x155 x156 x157 x158 x159 x160 x161 x162 x163 x164 x165 x166 x167 x168 x169 x170 x171 x172 x173 x174 x175 x176 x177 x178 x179 x180 x181 x182 x183 x184 x185 x186 x187 x188 x189 x190 x191 x192 x193 x194 x195 x196 x197 x198 x199 x200 x201 x202 x203 x204 x205 x206 x207 x208 x209 x210 x211 x212 x213 x214 x215 x216 x217 x218 x219 x220 x221 x222 x223 x224 x225 x226 : Value) :
    reg23.wp Tryd.prog (fun e a' w' => e = .normal ∧ After23 L i y lb1 lc1 lb2 lc2 lb3 lc3 lb4 lc4 lb5 lc5 lb6 lc6 x0 x1 x2 x3 x4 x5 x6 x7 x8 x9 x11 x13 x15 x17 x19 x21 x24 x25 x26 x27 x28 x29 x30 x31 x32 x33 x34 x35 x36 x37 x38 x39 x40 x41 x42 x43 x44 x45 x46 x47 x48 x49 x50 x51 x52 x53 x54 x55 x56 x57 x58 x59 x60 x61 x62 x63 x64 x65 x66 x67 x68 x69 x70 x71 x72 x73 x74 x75 x76 x77 x78 x79 x80 x81 x82 x83 x84 x85 x86 x87 x88 x89 x90 x91 x92 x93 x94 x95 x96 x97 x98 x99 x100 x101 x102 x103 x104 x105 x106 x107 x108 x109 x110 x111 x112 x113 x114 x115 x116 x117 x118 x119 x120 x121 x122 x123 x124 x125 x126 x127 x128 x129 x130 x131 x132 x133 x134 x135 x136 x137 x138 x139 x140 x141 x142 x143 x144 x145 x146 x147 x148 x149 x150 x151 x152 x153 x154 x155 x156 x157 x158 x159 x160 x161 x162 x163 x164 x165 x166 x167 x168 x169 x170 x171 x172 x173 x174 x175 x176 x177 x178 x179 x180 x181 x182 x183 x184 x185 x186 x187 x188 x189 x190 x191 x192 x193 x194 x195 x196 x197 x198 x199 x200 x201 x202 x203 x204 x205 x206 x207 x208 x209 x210 x211 x212 x213 x214 x215 x216 x217 x218 x219 x220 x221 x222 x223 x224 x225 x226 a' ∧ Below wr.heap.size wr w') { tmps := #[x0, x1, x2, x3, x4, x5, x6, x7, x8, x9, .slice (some ⟨lb1, 0, none⟩) (L + 1) lc1, x11, .slice (some ⟨lb2, 0, none⟩) (L + 1) lc2, x13, .slice (some ⟨lb3, 0, none⟩) (L + 1) lc3, x15, .slice (some ⟨lb4, 0, none⟩) (L + 1) lc4, x17, .slice (some ⟨lb5, 0, none⟩) (L + 1) lc5, x19, .slice (some ⟨lb6, 0, none⟩) (L + 1) lc6, x21, .int .i64 (i : Int), .int .i64 (y : Int), x24, x25, x26, x27, x28, x29, x30, x31, x32, x33, x34, x35, x36, x37, x38, x39, x40, x41, x42, x43, x44, x45, x46, x47, x48, x49, x50, x51, x52, x53, x54, x55, x56, x57, x58, x59, x60, x61, x62, x63, x64, x65, x66, x67, x68, x69, x70, x71, x72, x73, x74, x75, x76, x77, x78, x79, x80, x81, x82, x83, x84, x85, x86, x87, x88, x89, x90, x91, x92, x93, x94, x95, x96, x97, x98, x99, x100, x101, x102, x103, x104, x105, x106, x107, x108, x109, x110, x111, x112, x113, x114, x115, x116, x117, x118, x119, x120, x121, x122, x123, x124, x125, x126, x127, x128, x129, x130, x131, x132, x133, x134, x135, x136, x137, x138, x139, x140, x141, x142, x143, x144, x145, x146, x147, x148, x149, x150, x151, x152, x153, x154, x155, x156, x157, x158, x159, x160, x161, x162, x163, x164, x165, x166, x167, x168, x169, x170, x171, x172, x173, x174, x175, x176, x177, x178, x179, x180, x181, x182, x183, x184, x185, x186, x187, x188, x189, x190, x191, x192, x193, x194, x195, x196, x197, x198, x199, x200, x201, x202, x203, x204, x205, x206, x207, x208, x209, x210, x211, x212, x213, x214, x215, x216, x217, x218, x219, x220, x221, x222, x223, x224, x225, x226], defers := [] } wr := by
  obtain ⟨c1, c2, c3, c4, c5, c6, a1, b1, a2, b2, a3, b3, a4, b4, a5, b5, a6, b6⟩ := hs
  have hii : (i : Int) < (L : Int) + 1 := by omega
  have hyy : (y : Int) < (L : Int) + 1 := by omega
  have hii2 : i < L + 1 := by omega
  have hyy2 : y < L + 1 := by omega
  have t1 := cell_regrown a1; have t2 := cell_regrown a2; have t3 := cell_regrown a3; have t4 := cell_regrown a4; have t5 := cell_regrown a5; have t6 := cell_regrown a6; have u1 := cell_regrown b1; have u2 := cell_regrown b2; have u3 := cell_regrown b3; have u4 := cell_regrown b4; have u5 := cell_regrown b5; have u6 := cell_regrown b6
  clear a1 a2 a3 a4 a5 a6 b1 b2 b3 b4 b5 b6
  have hrw : ∃ ops, reg23 = Code.region 23 ops true := ⟨_, rfl⟩
  conv => arg 2; whnf
  refine wp_region_quiet_below (by kernel_rfl) (by kernel_rfl) ?_
  try simp only [List.append]
  repeat (go_big_quiet_step (fail))
  refine wpQuiet_nil ?_
  intro wz hwz
  refine ⟨by trivial, ⟨_, _, _, _, _, _, _, _, _, _, _, _, _, _, _, _, _, _, _, _, _, _, _, _, _, _, _, _, _, _, _, _, _, _, _, _, _, _, _, _, _, _, _, _, _, _, _, _, _, _, _, _, _, _, _, _, _, _, _, _, _, _, _, _, _, _, _, _, _, _, _, _, _, _, _, _, _, _, _, _, _, _, _, _, _, _, rfl⟩, by obtain ⟨qq, rfl⟩ := hwz; exact below_regrown _ _ _⟩
end Go.Proofs.YtmobilppakjihaaDoor
