/- Lanes that run alone: the exact laws of RunAlone, StepsAlone, EndRegs. -/
import Derived.Test.YtmiopbpahkgmbaaAlone
import Derived.Test.YtmiopbpahkgmbaaLaneL
import Derived.Test.YtmiopbpahkgmbaaSep
import Derived.Deep.CutRange
import Derived.Test.YtmiopbpahkgmbaaEndRegs
namespace Go.Proofs.Ytmiopbpahkgmbaa
open Go.RowKit Go

set_option maxRecDepth 100000 in
set_option maxHeartbeats 8000000 in
theorem fnExactRunAlone_walk (a : Option Addr) (p : List I4) (cap : Nat) (t : Int) (w : World) (hm : p.length ≤ maxLen) (hn : Nums w.heap.size w a (flat p)) :
    Calls Try.prog 9 #[.slice a p.length cap, .int .i64 t] w fun e w' => e = .returned (.bool true) ∧ Below w.heap.size w w' := by
  have hm' : p.length ≤ 9223372036854775807 := by unfold maxLen at hm; omega
  have HN := Lib.hid hn
  have hz := fun W => szP_any a p.length cap 1048576 W (by omega) (by omega) hm'
  clear hn hm
  by_cases hbig : 1048576 < p.length
  · rw [if_pos (by omega)] at hz
    replace hz := Lib.hid hz
    go_enter Try.func9, Try.ntmps9
    go_wp2_with fail
    refine (hz.out _).mono ?_
    rintro e w' ⟨rfl, rfl⟩
    go_wp2_with fail
    go_ret
    exact ⟨rfl, Below.refl _ _⟩
  rw [if_neg (by omega)] at hz
  have hd : decide ((1048576 : Int) - (p.length : Int) < 0) = false := by simp; omega
  replace hz := Lib.hid hz
  have hs : p.length ≤ 1048576 := by omega
  have hs2 : p.length ≤ 10000000 := by omega
  clear hbig hm'
  have HPG := Lib.hid HN.out.1
  have hyl := al_len p t
  have HTG := Lib.hid (al_rng p t)
  obtain ⟨ys, hxys⟩ : ∃ v, v = alR p t := ⟨_, rfl⟩
  rw [← hxys] at HTG hyl
  have hy2 : ys.length ≤ 10000000 := by omega
  clear hyl
  have HXys := Lib.hid hxys
  clear hxys
  obtain ⟨T, hxT⟩ : ∃ v, v = alT p t := ⟨_, rfl⟩
  have HXT := Lib.hid hxT
  clear hxT
  obtain ⟨m, hxm⟩ : ∃ v, v = alP p t := ⟨_, rfl⟩
  have HXm := Lib.hid hxm
  clear hxm
  obtain ⟨ok, hxok⟩ : ∃ v, v = aloneOk p t := ⟨_, rfl⟩
  have HXok := Lib.hid hxok
  clear hxok
  have KA := Lib.hid (Below.refl w.heap.size w)
  go_enter Try.func9, Try.ntmps9
  go_wp2_with fail
  refine (hz.out _).mono ?_
  rintro e w' ⟨rfl, rfl⟩
  clear hz
  go_wp2_with fail
  refine (toInsS_any w.heap.size w a p cap hs (HN.out.kept KA.out) (by omega)).mono ?_
  rintro e w1 ⟨rfl, o5, b5⟩
  have z1 : w.heap.size ≤ w1.heap.size := b5.size
  have K2 := Lib.hid (KA.out.trans (b5.mono (by omega)))
  clear KA
  have R3 := Lib.hid o5
  have U4 := Lib.hid (under_of o5)
  clear o5
  clear b5
  go_wp2_with fail
  refine (sRunAlone_any _ w1 _ p _ hs2 (R3.out.nums HPG.out (Nat.le_refl _)) (Nat.le_refl _) t).mono ?_
  rw [← HXys.out, ← HXT.out, ← HXm.out, ← HXok.out]
  rintro e w2 ⟨a4, c4, rfl, o5, b5⟩
  have z5 : w1.heap.size ≤ w2.heap.size := b5.size
  have K6 := Lib.hid (K2.out.trans (b5.mono (by omega)))
  clear K2
  have R7 := Lib.hid (R3.out.below b5)
  clear R3
  have R8 := Lib.hid o5
  have U9 := Lib.hid (under_of o5)
  have S10 := Lib.hid (sep_new o5 U4.out (by omega))
  clear o5
  clear b5
  go_upto_region 6 with fail
  obtain ⟨w2b, hw11⟩ : ∃ w', w' = w2.alloc (.cells #[.int .i64 T, .int .i64 m, .slice a4 ys.length c4] 27) := ⟨_, rfl⟩
  rw [← hw11]
  have b12 : Below w2.heap.size w2 w2b := by rw [hw11]; exact below1 _ _
  have X13 := Lib.hid (show Box 27 w2b w2.heap.size #[.int .i64 T, .int .i64 m, .slice a4 ys.length c4] by rw [hw11]; exact Box.new _ _ _)
  have z14 : w2.heap.size < w2b.heap.size := X13.out.lt
  clear hw11
  have z15 : w2.heap.size ≤ w2b.heap.size := b12.size
  have K16 := Lib.hid (K6.out.trans (b12.mono (by omega)))
  clear K6
  have R17 := Lib.hid (R7.out.below b12)
  clear R7
  have R18 := Lib.hid (R8.out.below b12)
  clear R8
  clear b12
  have S19 := Lib.hid (bsep_old (b := w2.heap.size) U4.out (by omega))
  have S20 := Lib.hid (bsep_old (b := w2.heap.size) U9.out (by omega))
  go_wp2_with fail
  refine (toInsS_any w.heap.size w2b a p cap hs (HN.out.kept K16.out) (by omega)).mono ?_
  rintro e w3 ⟨rfl, o5, b5⟩
  have z21 : w2b.heap.size ≤ w3.heap.size := b5.size
  have K22 := Lib.hid (K16.out.trans (b5.mono (by omega)))
  clear K16
  have R23 := Lib.hid (R17.out.below b5)
  clear R17
  have R24 := Lib.hid (R18.out.below b5)
  clear R18
  have X25 := Lib.hid (X13.out.below b5)
  clear X13
  have R26 := Lib.hid o5
  have U27 := Lib.hid (under_of o5)
  have S28 := Lib.hid (sep_new o5 U4.out (by omega))
  have S29 := Lib.hid (sep_new o5 U9.out (by omega))
  have S30 := Lib.hid (bsep_new o5 (show w2.heap.size < _ by omega))
  clear o5
  clear b5
  go_wp2_with fail
  refine (pRunAlone_any _ w3 _ p _ hs2 (R26.out.nums HPG.out (Nat.le_refl _)) (Nat.le_refl _) t).mono ?_
  rw [← HXys.out, ← HXT.out, ← HXm.out, ← HXok.out]
  rintro e w4 ⟨a8, c8, rfl, o5, b5⟩
  have z31 : w3.heap.size ≤ w4.heap.size := b5.size
  have K32 := Lib.hid (K22.out.trans (b5.mono (by omega)))
  clear K22
  have R33 := Lib.hid (R23.out.below b5)
  clear R23
  have R34 := Lib.hid (R24.out.below b5)
  clear R24
  have R35 := Lib.hid (R26.out.below b5)
  clear R26
  have X36 := Lib.hid (X25.out.below b5)
  clear X25
  have R37 := Lib.hid o5
  have U38 := Lib.hid (under_of o5)
  have S39 := Lib.hid (sep_new o5 U4.out (by omega))
  have S40 := Lib.hid (sep_new o5 U9.out (by omega))
  have S41 := Lib.hid (sep_new o5 U27.out (by omega))
  have S42 := Lib.hid (bsep_new o5 (show w2.heap.size < _ by omega))
  clear o5
  clear b5
  go_upto_region 8 with fail
  obtain ⟨w4b, hw43⟩ : ∃ w', w' = w4.alloc (.cells #[.int .i64 T, .int .i64 m, .slice a8 ys.length c8] 27) := ⟨_, rfl⟩
  rw [← hw43]
  have b44 : Below w4.heap.size w4 w4b := by rw [hw43]; exact below1 _ _
  have X45 := Lib.hid (show Box 27 w4b w4.heap.size #[.int .i64 T, .int .i64 m, .slice a8 ys.length c8] by rw [hw43]; exact Box.new _ _ _)
  have z46 : w4.heap.size < w4b.heap.size := X45.out.lt
  clear hw43
  have z47 : w4.heap.size ≤ w4b.heap.size := b44.size
  have K48 := Lib.hid (K32.out.trans (b44.mono (by omega)))
  clear K32
  have R49 := Lib.hid (R33.out.below b44)
  clear R33
  have R50 := Lib.hid (R34.out.below b44)
  clear R34
  have R51 := Lib.hid (R35.out.below b44)
  clear R35
  have R52 := Lib.hid (R37.out.below b44)
  clear R37
  have X53 := Lib.hid (X36.out.below b44)
  clear X36
  clear b44
  have S54 := Lib.hid (bsep_old (b := w4.heap.size) U4.out (by omega))
  have S55 := Lib.hid (bsep_old (b := w4.heap.size) U9.out (by omega))
  have S56 := Lib.hid (bsep_old (b := w4.heap.size) U27.out (by omega))
  have S57 := Lib.hid (bsep_old (b := w4.heap.size) U38.out (by omega))
  have c58 := X45.out.cell 0
  have c59 := X45.out.cell 1
  have c60 := X45.out.cell 2
  simp at c58 c59 c60
  have l61 := X45.out.lt
  have c62 := X53.out.cell 0
  have c63 := X53.out.cell 1
  have c64 := X53.out.cell 2
  simp at c62 c63 c64
  have l65 := X53.out.lt
  go_wp2_with fail
  refine (eqLane_same T m a8 a4 _ _ c8 c4 ys w4b hy2 (R52.out.nums HTG.out (Nat.le_refl _)) (R50.out.nums HTG.out (Nat.le_refl _)) (Nat.le_refl _) (Nat.le_refl _)).mono ?_
  rintro e w5 ⟨rfl, b5⟩
  clear c58 c59 c60 l61 c62 c63 c64 l65
  have z66 : w4b.heap.size ≤ w5.heap.size := b5.size
  have K67 := Lib.hid (K48.out.trans (b5.mono (by omega)))
  clear K48
  have R68 := Lib.hid (R49.out.below b5)
  clear R49
  have R69 := Lib.hid (R50.out.below b5)
  clear R50
  have R70 := Lib.hid (R51.out.below b5)
  clear R51
  have R71 := Lib.hid (R52.out.below b5)
  clear R52
  have X72 := Lib.hid (X53.out.below b5)
  clear X53
  have X73 := Lib.hid (X45.out.below b5)
  clear X45
  clear b5
  go_wp2_with fail
  refine (toInsS_any w.heap.size w5 a p cap hs (HN.out.kept K67.out) (by omega)).mono ?_
  rintro e w6 ⟨rfl, o5, b5⟩
  have z74 : w5.heap.size ≤ w6.heap.size := b5.size
  have K75 := Lib.hid (K67.out.trans (b5.mono (by omega)))
  clear K67
  have R76 := Lib.hid (R68.out.below b5)
  clear R68
  have R77 := Lib.hid (R69.out.below b5)
  clear R69
  have R78 := Lib.hid (R70.out.below b5)
  clear R70
  have R79 := Lib.hid (R71.out.below b5)
  clear R71
  have X80 := Lib.hid (X72.out.below b5)
  clear X72
  have X81 := Lib.hid (X73.out.below b5)
  clear X73
  have R82 := Lib.hid o5
  have U83 := Lib.hid (under_of o5)
  have S84 := Lib.hid (sep_new o5 U4.out (by omega))
  have S85 := Lib.hid (sep_new o5 U9.out (by omega))
  have S86 := Lib.hid (sep_new o5 U27.out (by omega))
  have S87 := Lib.hid (sep_new o5 U38.out (by omega))
  have S88 := Lib.hid (bsep_new o5 (show w2.heap.size < _ by omega))
  have S89 := Lib.hid (bsep_new o5 (show w4.heap.size < _ by omega))
  clear o5
  clear b5
  go_wp2_with fail
  refine (eqP_same _ _ _ _ _ _ p w6 hs2 (R78.out.nums HPG.out (Nat.le_refl _)) (R82.out.nums HPG.out (Nat.le_refl _)) (Nat.le_refl _) (Nat.le_refl _)).mono ?_
  rintro e w7 ⟨rfl, b5⟩
  have z90 : w6.heap.size ≤ w7.heap.size := b5.size
  have K91 := Lib.hid (K75.out.trans (b5.mono (by omega)))
  clear K75
  have R92 := Lib.hid (R76.out.below b5)
  clear R76
  have R93 := Lib.hid (R77.out.below b5)
  clear R77
  have R94 := Lib.hid (R78.out.below b5)
  clear R78
  have R95 := Lib.hid (R79.out.below b5)
  clear R79
  have R96 := Lib.hid (R82.out.below b5)
  clear R82
  have X97 := Lib.hid (X80.out.below b5)
  clear X80
  have X98 := Lib.hid (X81.out.below b5)
  clear X81
  clear b5
  go_wp2_with fail
  refine (markP_any _ 1 p.length _ (flat p) w7 (by omega) hs2 R94.out).mono ?_
  rintro e w8 ⟨rfl, o5, g5⟩
  obtain ⟨kk, hkk⟩ : ∃ kk : Nat, kk = 1 + p.length * 4 := ⟨_, rfl⟩
  rw [← hkk]
  have hd3 : decide ((kk : Int) < 0) = false := by simp
  clear hkk
  have z99 : w7.heap.size ≤ w8.heap.size := g5.size
  have K100 := Lib.hid (K91.out.trans (mark_below R94.out g5 (by omega) (by omega)))
  clear K91
  have R101 := Lib.hid (R92.out.sep S28.out.symm g5)
  clear R92
  have R102 := Lib.hid (R93.out.sep S29.out.symm g5)
  clear R93
  have R103 := Lib.hid (R95.out.sep S41.out g5)
  clear R95
  have R104 := Lib.hid (R96.out.sep S86.out g5)
  clear R96
  have X105 := Lib.hid (X97.out.sep S30.out g5)
  clear X97
  have X106 := Lib.hid (X98.out.sep S56.out g5)
  clear X98
  clear R94
  have R107 := Lib.hid o5
  clear o5
  clear g5
  have c108 := X106.out.cell 0
  have c109 := X106.out.cell 1
  have c110 := X106.out.cell 2
  simp at c108 c109 c110
  have l111 := X106.out.lt
  have c112 := X105.out.cell 0
  have c113 := X105.out.cell 1
  have c114 := X105.out.cell 2
  simp at c112 c113 c114
  have l115 := X105.out.lt
  go_wp2_with fail
  refine (eqLane_same T m a8 a4 _ _ c8 c4 ys w8 hy2 (R103.out.nums HTG.out (Nat.le_refl _)) (R102.out.nums HTG.out (Nat.le_refl _)) (Nat.le_refl _) (Nat.le_refl _)).mono ?_
  rintro e w9 ⟨rfl, b5⟩
  clear c108 c109 c110 l111 c112 c113 c114 l115
  have z116 : w8.heap.size ≤ w9.heap.size := b5.size
  have K117 := Lib.hid (K100.out.trans (b5.mono (by omega)))
  clear K100
  have R118 := Lib.hid (R101.out.below b5)
  clear R101
  have R119 := Lib.hid (R102.out.below b5)
  clear R102
  have R120 := Lib.hid (R107.out.below b5)
  clear R107
  have R121 := Lib.hid (R103.out.below b5)
  clear R103
  have R122 := Lib.hid (R104.out.below b5)
  clear R104
  have X123 := Lib.hid (X105.out.below b5)
  clear X105
  have X124 := Lib.hid (X106.out.below b5)
  clear X106
  clear b5
  clear hd3
  have c125 := X124.out.cell 0
  have c126 := X124.out.cell 1
  have c127 := X124.out.cell 2
  simp at c125 c126 c127
  have l128 := X124.out.lt
  go_wp2_with fail
  refine (markLane_any T m _ 1 _ ys w9 (by omega) hy2 R121.out).mono ?_
  rintro e w10 ⟨rfl, o5, g5⟩
  obtain ⟨kq, hkq⟩ : ∃ kq : Nat, kq = 1 + ys.length := ⟨_, rfl⟩
  rw [← hkq]
  have hd4 : decide ((kq : Int) < 0) = false := by simp
  have HKQ := Lib.hid hkq
  clear hkq
  clear c125 c126 c127 l128
  have z129 : w9.heap.size ≤ w10.heap.size := g5.size
  have K130 := Lib.hid (K117.out.trans (mark_below R121.out g5 (by omega) (by omega)))
  clear K117
  have R131 := Lib.hid (R118.out.sep S39.out.symm g5)
  clear R118
  have R132 := Lib.hid (R119.out.sep S40.out.symm g5)
  clear R119
  have R133 := Lib.hid (R120.out.sep S41.out.symm g5)
  clear R120
  have R134 := Lib.hid (R122.out.sep S87.out g5)
  clear R122
  have X135 := Lib.hid (X123.out.sep S42.out g5)
  clear X123
  have X136 := Lib.hid (X124.out.sep S57.out g5)
  clear X124
  clear R121
  have R137 := Lib.hid o5
  clear o5
  clear g5
  have c138 := X136.out.cell 0
  have c139 := X136.out.cell 1
  have c140 := X136.out.cell 2
  simp at c138 c139 c140
  have l141 := X136.out.lt
  go_wp2_with fail
  refine (heldLane_any T m _ 1 ys.length _ w10 (by omega) hy2 R137.out).mono ?_
  rintro e w11 ⟨rfl, b5⟩
  rw [← HKQ.out]
  clear c138 c139 c140 l141
  have z142 : w10.heap.size ≤ w11.heap.size := b5.size
  have K143 := Lib.hid (K130.out.trans (b5.mono (by omega)))
  clear K130
  have R144 := Lib.hid (R131.out.below b5)
  clear R131
  have R145 := Lib.hid (R132.out.below b5)
  clear R132
  have R146 := Lib.hid (R133.out.below b5)
  clear R133
  have R147 := Lib.hid (R137.out.below b5)
  clear R137
  have R148 := Lib.hid (R134.out.below b5)
  clear R134
  have X149 := Lib.hid (X135.out.below b5)
  clear X135
  have X150 := Lib.hid (X136.out.below b5)
  clear X136
  clear b5
  clear R146 U27 S28 S29 S30 S56 S41 S86 R144 U4 S19 S54 S10 S39 S84 R148 U83 S85 S87 S88 S89
  go_wp2_with fail
  refine (toInsS_any w.heap.size w11 a p cap hs (HN.out.kept K143.out) (by omega)).mono ?_
  rintro e w12 ⟨rfl, o5, b5⟩
  have z151 : w11.heap.size ≤ w12.heap.size := b5.size
  have K152 := Lib.hid (K143.out.trans (b5.mono (by omega)))
  clear K143
  have R153 := Lib.hid (R145.out.below b5)
  clear R145
  have R154 := Lib.hid (R147.out.below b5)
  clear R147
  have X155 := Lib.hid (X149.out.below b5)
  clear X149
  have X156 := Lib.hid (X150.out.below b5)
  clear X150
  have R157 := Lib.hid o5
  have U158 := Lib.hid (under_of o5)
  have S159 := Lib.hid (sep_new o5 U9.out (by omega))
  have S160 := Lib.hid (sep_new o5 U38.out (by omega))
  have S161 := Lib.hid (bsep_new o5 (show w2.heap.size < _ by omega))
  have S162 := Lib.hid (bsep_new o5 (show w4.heap.size < _ by omega))
  clear o5
  clear b5
  go_wp2_with fail
  refine (pRunAlone_any _ w12 _ p _ hs2 (R157.out.nums HPG.out (Nat.le_refl _)) (Nat.le_refl _) t).mono ?_
  rw [← HXys.out, ← HXT.out, ← HXm.out, ← HXok.out]
  rintro e w13 ⟨a15, c15, rfl, o5, b5⟩
  have z163 : w12.heap.size ≤ w13.heap.size := b5.size
  have K164 := Lib.hid (K152.out.trans (b5.mono (by omega)))
  clear K152
  have R165 := Lib.hid (R153.out.below b5)
  clear R153
  have R166 := Lib.hid (R154.out.below b5)
  clear R154
  have R167 := Lib.hid (R157.out.below b5)
  clear R157
  have X168 := Lib.hid (X155.out.below b5)
  clear X155
  have X169 := Lib.hid (X156.out.below b5)
  clear X156
  have R170 := Lib.hid o5
  have U171 := Lib.hid (under_of o5)
  have S172 := Lib.hid (sep_new o5 U9.out (by omega))
  have S173 := Lib.hid (sep_new o5 U38.out (by omega))
  have S174 := Lib.hid (sep_new o5 U158.out (by omega))
  have S175 := Lib.hid (bsep_new o5 (show w2.heap.size < _ by omega))
  have S176 := Lib.hid (bsep_new o5 (show w4.heap.size < _ by omega))
  clear o5
  clear b5
  go_upto_region 25 with fail
  obtain ⟨w13b, hw177⟩ : ∃ w', w' = w13.alloc (.cells #[.int .i64 T, .int .i64 m, .slice a15 ys.length c15] 27) := ⟨_, rfl⟩
  rw [← hw177]
  have b178 : Below w13.heap.size w13 w13b := by rw [hw177]; exact below1 _ _
  have X179 := Lib.hid (show Box 27 w13b w13.heap.size #[.int .i64 T, .int .i64 m, .slice a15 ys.length c15] by rw [hw177]; exact Box.new _ _ _)
  have z180 : w13.heap.size < w13b.heap.size := X179.out.lt
  clear hw177
  have z181 : w13.heap.size ≤ w13b.heap.size := b178.size
  have K182 := Lib.hid (K164.out.trans (b178.mono (by omega)))
  clear K164
  have R183 := Lib.hid (R165.out.below b178)
  clear R165
  have R184 := Lib.hid (R166.out.below b178)
  clear R166
  have R185 := Lib.hid (R167.out.below b178)
  clear R167
  have R186 := Lib.hid (R170.out.below b178)
  clear R170
  have X187 := Lib.hid (X168.out.below b178)
  clear X168
  have X188 := Lib.hid (X169.out.below b178)
  clear X169
  clear b178
  have S189 := Lib.hid (bsep_old (b := w13.heap.size) U9.out (by omega))
  have S190 := Lib.hid (bsep_old (b := w13.heap.size) U38.out (by omega))
  have S191 := Lib.hid (bsep_old (b := w13.heap.size) U158.out (by omega))
  have S192 := Lib.hid (bsep_old (b := w13.heap.size) U171.out (by omega))
  have c193 := X179.out.cell 0
  have c194 := X179.out.cell 1
  have c195 := X179.out.cell 2
  simp at c193 c194 c195
  have l196 := X179.out.lt
  have c197 := X187.out.cell 0
  have c198 := X187.out.cell 1
  have c199 := X187.out.cell 2
  simp at c197 c198 c199
  have l200 := X187.out.lt
  go_wp2_with fail
  refine (eqLane_same T m a15 a4 _ _ c15 c4 ys w13b hy2 (R186.out.nums HTG.out (Nat.le_refl _)) (R183.out.nums HTG.out (Nat.le_refl _)) (Nat.le_refl _) (Nat.le_refl _)).mono ?_
  rintro e w14 ⟨rfl, b5⟩
  clear c193 c194 c195 l196 c197 c198 c199 l200
  have z201 : w13b.heap.size ≤ w14.heap.size := b5.size
  have K202 := Lib.hid (K182.out.trans (b5.mono (by omega)))
  clear K182
  have R203 := Lib.hid (R183.out.below b5)
  clear R183
  have R204 := Lib.hid (R184.out.below b5)
  clear R184
  have R205 := Lib.hid (R185.out.below b5)
  clear R185
  have R206 := Lib.hid (R186.out.below b5)
  clear R186
  have X207 := Lib.hid (X187.out.below b5)
  clear X187
  have X208 := Lib.hid (X188.out.below b5)
  clear X188
  have X209 := Lib.hid (X179.out.below b5)
  clear X179
  clear b5
  have c210 := X208.out.cell 0
  have c211 := X208.out.cell 1
  have c212 := X208.out.cell 2
  simp at c210 c211 c212
  have l213 := X208.out.lt
  go_wp2_with fail
  refine (heldLane_any T m _ 1 ys.length _ w14 (by omega) hy2 R204.out).mono ?_
  rintro e w15 ⟨rfl, b5⟩
  rw [← HKQ.out]
  clear c210 c211 c212 l213
  have z214 : w14.heap.size ≤ w15.heap.size := b5.size
  have K215 := Lib.hid (K202.out.trans (b5.mono (by omega)))
  clear K202
  have R216 := Lib.hid (R203.out.below b5)
  clear R203
  have R217 := Lib.hid (R204.out.below b5)
  clear R204
  have R218 := Lib.hid (R205.out.below b5)
  clear R205
  have R219 := Lib.hid (R206.out.below b5)
  clear R206
  have X220 := Lib.hid (X207.out.below b5)
  clear X207
  have X221 := Lib.hid (X208.out.below b5)
  clear X208
  have X222 := Lib.hid (X209.out.below b5)
  clear X209
  clear b5
  go_wp2_with fail
  go_ret
  exact ⟨rfl, K215.out⟩

set_option maxRecDepth 100000 in
set_option maxHeartbeats 8000000 in
theorem fnExactStepsAlone_walk (a : Option Addr) (p : List I4) (cap : Nat) (t : Int) (w : World) (hm : p.length ≤ maxLen) (hn : Nums w.heap.size w a (flat p)) :
    Calls Try.prog 10 #[.slice a p.length cap, .int .i64 t] w fun e w' => e = .returned (.bool true) ∧ Below w.heap.size w w' := by
  have hm' : p.length ≤ 9223372036854775807 := by unfold maxLen at hm; omega
  have HN := Lib.hid hn
  have hz := fun W => szP_any a p.length cap 1048576 W (by omega) (by omega) hm'
  clear hn hm
  by_cases hbig : 1048576 < p.length
  · rw [if_pos (by omega)] at hz
    replace hz := Lib.hid hz
    go_enter Try.func10, Try.ntmps10
    go_wp2_with fail
    refine (hz.out _).mono ?_
    rintro e w' ⟨rfl, rfl⟩
    go_wp2_with fail
    go_ret
    exact ⟨rfl, Below.refl _ _⟩
  rw [if_neg (by omega)] at hz
  have hd : decide ((1048576 : Int) - (p.length : Int) < 0) = false := by simp; omega
  replace hz := Lib.hid hz
  have hs : p.length ≤ 1048576 := by omega
  have hs2 : p.length ≤ 10000000 := by omega
  clear hbig hm'
  have HPG := Lib.hid HN.out.1
  obtain ⟨N, hxN⟩ : ∃ v, v = alN p t := ⟨_, rfl⟩
  have HXN := Lib.hid hxN
  clear hxN
  have KA := Lib.hid (Below.refl w.heap.size w)
  go_enter Try.func10, Try.ntmps10
  go_wp2_with fail
  refine (hz.out _).mono ?_
  rintro e w' ⟨rfl, rfl⟩
  clear hz
  go_wp2_with fail
  refine (toInsS_any w.heap.size w a p cap hs (HN.out.kept KA.out) (by omega)).mono ?_
  rintro e w1 ⟨rfl, o5, b5⟩
  have z1 : w.heap.size ≤ w1.heap.size := b5.size
  have K2 := Lib.hid (KA.out.trans (b5.mono (by omega)))
  clear KA
  have R3 := Lib.hid o5
  have U4 := Lib.hid (under_of o5)
  clear o5
  clear b5
  go_wp2_with fail
  refine (sStepsAlone_any _ w1 _ p _ hs2 (R3.out.nums HPG.out (Nat.le_refl _)) (Nat.le_refl _) t).mono ?_
  rw [← HXN.out]
  rintro e w2 ⟨rfl, b5⟩
  have z5 : w1.heap.size ≤ w2.heap.size := b5.size
  have K6 := Lib.hid (K2.out.trans (b5.mono (by omega)))
  clear K2
  have R7 := Lib.hid (R3.out.below b5)
  clear R3
  clear b5
  go_wp2_with fail
  refine (toInsS_any w.heap.size w2 a p cap hs (HN.out.kept K6.out) (by omega)).mono ?_
  rintro e w3 ⟨rfl, o5, b5⟩
  have z8 : w2.heap.size ≤ w3.heap.size := b5.size
  have K9 := Lib.hid (K6.out.trans (b5.mono (by omega)))
  clear K6
  have R10 := Lib.hid (R7.out.below b5)
  clear R7
  have R11 := Lib.hid o5
  have U12 := Lib.hid (under_of o5)
  have S13 := Lib.hid (sep_new o5 U4.out (by omega))
  clear o5
  clear b5
  go_wp2_with fail
  refine (pStepsAlone_any _ w3 _ p _ hs2 (R11.out.nums HPG.out (Nat.le_refl _)) (Nat.le_refl _) t).mono ?_
  rw [← HXN.out]
  rintro e w4 ⟨rfl, b5⟩
  have z14 : w3.heap.size ≤ w4.heap.size := b5.size
  have K15 := Lib.hid (K9.out.trans (b5.mono (by omega)))
  clear K9
  have R16 := Lib.hid (R10.out.below b5)
  clear R10
  have R17 := Lib.hid (R11.out.below b5)
  clear R11
  clear b5
  go_wp2_with fail
  refine (toInsS_any w.heap.size w4 a p cap hs (HN.out.kept K15.out) (by omega)).mono ?_
  rintro e w6 ⟨rfl, o5, b5⟩
  have z18 : w4.heap.size ≤ w6.heap.size := b5.size
  have K19 := Lib.hid (K15.out.trans (b5.mono (by omega)))
  clear K15
  have R20 := Lib.hid (R16.out.below b5)
  clear R16
  have R21 := Lib.hid (R17.out.below b5)
  clear R17
  have R22 := Lib.hid o5
  have U23 := Lib.hid (under_of o5)
  have S24 := Lib.hid (sep_new o5 U4.out (by omega))
  have S25 := Lib.hid (sep_new o5 U12.out (by omega))
  clear o5
  clear b5
  go_wp2_with fail
  refine (eqP_same _ _ _ _ _ _ p w6 hs2 (R21.out.nums HPG.out (Nat.le_refl _)) (R22.out.nums HPG.out (Nat.le_refl _)) (Nat.le_refl _) (Nat.le_refl _)).mono ?_
  rintro e w7 ⟨rfl, b5⟩
  have z26 : w6.heap.size ≤ w7.heap.size := b5.size
  have K27 := Lib.hid (K19.out.trans (b5.mono (by omega)))
  clear K19
  have R28 := Lib.hid (R20.out.below b5)
  clear R20
  have R29 := Lib.hid (R21.out.below b5)
  clear R21
  have R30 := Lib.hid (R22.out.below b5)
  clear R22
  clear b5
  go_wp2_with fail
  go_ret
  exact ⟨rfl, K27.out⟩

set_option maxRecDepth 100000 in
set_option maxHeartbeats 8000000 in
theorem fnExactEndRegs_walk (a : Option Addr) (p : List I4) (cap : Nat) (f n : Int) (w : World) (hm : p.length ≤ maxLen) (hn : Nums w.heap.size w a (flat p)) (hf : i64R f) :
    Calls Try.prog 11 #[.slice a p.length cap, .int .i64 f, .int .i64 n] w fun e w' => e = .returned (.bool true) ∧ Below w.heap.size w w' := by
  have hm' : p.length ≤ 9223372036854775807 := by unfold maxLen at hm; omega
  have HN := Lib.hid hn
  have hz := fun W => szP_any a p.length cap 1048576 W (by omega) (by omega) hm'
  clear hn hm
  by_cases hbig : 1048576 < p.length
  · rw [if_pos (by omega)] at hz
    replace hz := Lib.hid hz
    go_enter Try.func11, Try.ntmps11
    go_wp2_with fail
    refine (hz.out _).mono ?_
    rintro e w' ⟨rfl, rfl⟩
    go_wp2_with fail
    go_ret
    exact ⟨rfl, Below.refl _ _⟩
  rw [if_neg (by omega)] at hz
  have hd : decide ((1048576 : Int) - (p.length : Int) < 0) = false := by simp; omega
  replace hz := Lib.hid hz
  have hs : p.length ≤ 1048576 := by omega
  have hs2 : p.length ≤ 10000000 := by omega
  clear hbig hm'
  have HPG := Lib.hid HN.out.1
  have hyl := er_len p f n
  have HTG := Lib.hid (er_rng p f n)
  obtain ⟨ys, hxys⟩ : ∃ v, v = erR p f n := ⟨_, rfl⟩
  rw [← hxys] at HTG hyl
  have hy2 : ys.length ≤ 10000000 := by omega
  clear hyl
  have HXys := Lib.hid hxys
  clear hxys
  obtain ⟨ok, hxok⟩ : ∃ v, v = erOk p f n := ⟨_, rfl⟩
  have HXok := Lib.hid hxok
  clear hxok
  have KA := Lib.hid (Below.refl w.heap.size w)
  go_enter Try.func11, Try.ntmps11
  go_wp2_with fail
  refine (hz.out _).mono ?_
  rintro e w' ⟨rfl, rfl⟩
  clear hz
  go_wp2_with fail
  refine (toInsS_any w.heap.size w a p cap hs (HN.out.kept KA.out) (by omega)).mono ?_
  rintro e w1 ⟨rfl, o5, b5⟩
  have z1 : w.heap.size ≤ w1.heap.size := b5.size
  have K2 := Lib.hid (KA.out.trans (b5.mono (by omega)))
  clear KA
  have R3 := Lib.hid o5
  have U4 := Lib.hid (under_of o5)
  clear o5
  clear b5
  go_wp2_with fail
  refine (sEndRegs_any _ w1 _ p _ hs2 (R3.out.nums HPG.out (Nat.le_refl _)) (Nat.le_refl _) f n hf).mono ?_
  rw [← HXys.out, ← HXok.out]
  rintro e w2 ⟨vw2, rfl, o5, b5⟩
  obtain ⟨a4, c4, rfl⟩ := o5.form
  have z5 : w1.heap.size ≤ w2.heap.size := b5.size
  have K6 := Lib.hid (K2.out.trans (b5.mono (by omega)))
  clear K2
  have R7 := Lib.hid (R3.out.below b5)
  clear R3
  have R8 := Lib.hid o5
  have U9 := Lib.hid (under_of o5)
  have S10 := Lib.hid (sep_new o5 U4.out (by omega))
  clear o5
  clear b5
  go_wp2_with fail
  refine (toInsS_any w.heap.size w2 a p cap hs (HN.out.kept K6.out) (by omega)).mono ?_
  rintro e w3 ⟨rfl, o5, b5⟩
  have z11 : w2.heap.size ≤ w3.heap.size := b5.size
  have K12 := Lib.hid (K6.out.trans (b5.mono (by omega)))
  clear K6
  have R13 := Lib.hid (R7.out.below b5)
  clear R7
  have R14 := Lib.hid (R8.out.below b5)
  clear R8
  have R15 := Lib.hid o5
  have U16 := Lib.hid (under_of o5)
  have S17 := Lib.hid (sep_new o5 U4.out (by omega))
  have S18 := Lib.hid (sep_new o5 U9.out (by omega))
  clear o5
  clear b5
  go_wp2_with fail
  refine (pEndRegs_any _ w3 _ p _ hs2 (R15.out.nums HPG.out (Nat.le_refl _)) (Nat.le_refl _) f n hf).mono ?_
  rw [← HXys.out, ← HXok.out]
  rintro e w4 ⟨vw4, rfl, o5, b5⟩
  obtain ⟨a8, c8, rfl⟩ := o5.form
  have z19 : w3.heap.size ≤ w4.heap.size := b5.size
  have K20 := Lib.hid (K12.out.trans (b5.mono (by omega)))
  clear K12
  have R21 := Lib.hid (R13.out.below b5)
  clear R13
  have R22 := Lib.hid (R14.out.below b5)
  clear R14
  have R23 := Lib.hid (R15.out.below b5)
  clear R15
  have R24 := Lib.hid o5
  have U25 := Lib.hid (under_of o5)
  have S26 := Lib.hid (sep_new o5 U4.out (by omega))
  have S27 := Lib.hid (sep_new o5 U9.out (by omega))
  have S28 := Lib.hid (sep_new o5 U16.out (by omega))
  clear o5
  clear b5
  go_wp2_with fail
  refine (eqI_same _ _ _ _ _ _ ys w4 hy2 (R24.out.nums HTG.out (Nat.le_refl _)) (R22.out.nums HTG.out (Nat.le_refl _))).mono ?_
  rintro e w' ⟨rfl, md, rfl⟩
  have b5 := below_drewN w4.heap.size w4 md
  generalize w4.drewN md = w5 at *
  have z29 : w4.heap.size ≤ w5.heap.size := b5.size
  have K30 := Lib.hid (K20.out.trans (b5.mono (by omega)))
  clear K20
  have R31 := Lib.hid (R21.out.below b5)
  clear R21
  have R32 := Lib.hid (R22.out.below b5)
  clear R22
  have R33 := Lib.hid (R23.out.below b5)
  clear R23
  have R34 := Lib.hid (R24.out.below b5)
  clear R24
  clear b5
  go_wp2_with fail
  refine (toInsS_any w.heap.size w5 a p cap hs (HN.out.kept K30.out) (by omega)).mono ?_
  rintro e w6 ⟨rfl, o5, b5⟩
  have z35 : w5.heap.size ≤ w6.heap.size := b5.size
  have K36 := Lib.hid (K30.out.trans (b5.mono (by omega)))
  clear K30
  have R37 := Lib.hid (R31.out.below b5)
  clear R31
  have R38 := Lib.hid (R32.out.below b5)
  clear R32
  have R39 := Lib.hid (R33.out.below b5)
  clear R33
  have R40 := Lib.hid (R34.out.below b5)
  clear R34
  have R41 := Lib.hid o5
  have U42 := Lib.hid (under_of o5)
  have S43 := Lib.hid (sep_new o5 U4.out (by omega))
  have S44 := Lib.hid (sep_new o5 U9.out (by omega))
  have S45 := Lib.hid (sep_new o5 U16.out (by omega))
  have S46 := Lib.hid (sep_new o5 U25.out (by omega))
  clear o5
  clear b5
  go_wp2_with fail
  refine (eqP_same _ _ _ _ _ _ p w6 hs2 (R39.out.nums HPG.out (Nat.le_refl _)) (R41.out.nums HPG.out (Nat.le_refl _)) (Nat.le_refl _) (Nat.le_refl _)).mono ?_
  rintro e w7 ⟨rfl, b5⟩
  have z47 : w6.heap.size ≤ w7.heap.size := b5.size
  have K48 := Lib.hid (K36.out.trans (b5.mono (by omega)))
  clear K36
  have R49 := Lib.hid (R37.out.below b5)
  clear R37
  have R50 := Lib.hid (R38.out.below b5)
  clear R38
  have R51 := Lib.hid (R39.out.below b5)
  clear R39
  have R52 := Lib.hid (R40.out.below b5)
  clear R40
  have R53 := Lib.hid (R41.out.below b5)
  clear R41
  clear b5
  go_wp2_with fail
  refine (markP_any _ 1 p.length _ (flat p) w7 (by omega) hs2 R51.out).mono ?_
  rintro e w8 ⟨rfl, o5, g5⟩
  obtain ⟨kk, hkk⟩ : ∃ kk : Nat, kk = 1 + p.length * 4 := ⟨_, rfl⟩
  rw [← hkk]
  have hd3 : decide ((kk : Int) < 0) = false := by simp
  clear hkk
  have z54 : w7.heap.size ≤ w8.heap.size := g5.size
  have K55 := Lib.hid (K48.out.trans (mark_below R51.out g5 (by omega) (by omega)))
  clear K48
  have R56 := Lib.hid (R49.out.sep S17.out.symm g5)
  clear R49
  have R57 := Lib.hid (R50.out.sep S18.out.symm g5)
  clear R50
  have R58 := Lib.hid (R52.out.sep S28.out g5)
  clear R52
  have R59 := Lib.hid (R53.out.sep S45.out g5)
  clear R53
  clear R51
  have R60 := Lib.hid o5
  clear o5
  clear g5
  go_wp2_with fail
  refine (eqI_same _ _ _ _ _ _ ys w8 hy2 (R58.out.nums HTG.out (Nat.le_refl _)) (R57.out.nums HTG.out (Nat.le_refl _))).mono ?_
  rintro e w' ⟨rfl, md, rfl⟩
  have b5 := below_drewN w8.heap.size w8 md
  generalize w8.drewN md = w9 at *
  have z61 : w8.heap.size ≤ w9.heap.size := b5.size
  have K62 := Lib.hid (K55.out.trans (b5.mono (by omega)))
  clear K55
  have R63 := Lib.hid (R56.out.below b5)
  clear R56
  have R64 := Lib.hid (R57.out.below b5)
  clear R57
  have R65 := Lib.hid (R60.out.below b5)
  clear R60
  have R66 := Lib.hid (R58.out.below b5)
  clear R58
  have R67 := Lib.hid (R59.out.below b5)
  clear R59
  clear b5
  clear hd3
  go_wp2_with fail
  refine (markI_any _ 1 _ ys w9 (by omega) hy2 R66.out).mono ?_
  rintro e w10 ⟨rfl, o5, g5⟩
  obtain ⟨kq, hkq⟩ : ∃ kq : Nat, kq = 1 + ys.length := ⟨_, rfl⟩
  rw [← hkq]
  have hd4 : decide ((kq : Int) < 0) = false := by simp
  have HKQ := Lib.hid hkq
  clear hkq
  have z68 : w9.heap.size ≤ w10.heap.size := g5.size
  have K69 := Lib.hid (K62.out.trans (mark_below R66.out g5 (by omega) (by omega)))
  clear K62
  have R70 := Lib.hid (R63.out.sep S26.out.symm g5)
  clear R63
  have R71 := Lib.hid (R64.out.sep S27.out.symm g5)
  clear R64
  have R72 := Lib.hid (R65.out.sep S28.out.symm g5)
  clear R65
  have R73 := Lib.hid (R67.out.sep S46.out g5)
  clear R67
  clear R66
  have R74 := Lib.hid o5
  clear o5
  clear g5
  go_wp2_with fail
  refine (heldI_any _ 1 ys.length _ w10 (by omega) hy2 R74.out).mono ?_
  rintro e w' ⟨rfl, md, rfl⟩
  rw [← HKQ.out]
  have b5 := below_drewN w10.heap.size w10 md
  generalize w10.drewN md = w11 at *
  have z75 : w10.heap.size ≤ w11.heap.size := b5.size
  have K76 := Lib.hid (K69.out.trans (b5.mono (by omega)))
  clear K69
  have R77 := Lib.hid (R70.out.below b5)
  clear R70
  have R78 := Lib.hid (R71.out.below b5)
  clear R71
  have R79 := Lib.hid (R72.out.below b5)
  clear R72
  have R80 := Lib.hid (R74.out.below b5)
  clear R74
  have R81 := Lib.hid (R73.out.below b5)
  clear R73
  clear b5
  clear R79 U16 S17 S18 S28 S45 R77 U4 S10 S26 S43 R81 U42 S44 S46
  go_wp2_with fail
  refine (toInsS_any w.heap.size w11 a p cap hs (HN.out.kept K76.out) (by omega)).mono ?_
  rintro e w12 ⟨rfl, o5, b5⟩
  have z82 : w11.heap.size ≤ w12.heap.size := b5.size
  have K83 := Lib.hid (K76.out.trans (b5.mono (by omega)))
  clear K76
  have R84 := Lib.hid (R78.out.below b5)
  clear R78
  have R85 := Lib.hid (R80.out.below b5)
  clear R80
  have R86 := Lib.hid o5
  have U87 := Lib.hid (under_of o5)
  have S88 := Lib.hid (sep_new o5 U9.out (by omega))
  have S89 := Lib.hid (sep_new o5 U25.out (by omega))
  clear o5
  clear b5
  go_wp2_with fail
  refine (pEndRegs_any _ w12 _ p _ hs2 (R86.out.nums HPG.out (Nat.le_refl _)) (Nat.le_refl _) f n hf).mono ?_
  rw [← HXys.out, ← HXok.out]
  rintro e w13 ⟨vw13, rfl, o5, b5⟩
  obtain ⟨a15, c15, rfl⟩ := o5.form
  have z90 : w12.heap.size ≤ w13.heap.size := b5.size
  have K91 := Lib.hid (K83.out.trans (b5.mono (by omega)))
  clear K83
  have R92 := Lib.hid (R84.out.below b5)
  clear R84
  have R93 := Lib.hid (R85.out.below b5)
  clear R85
  have R94 := Lib.hid (R86.out.below b5)
  clear R86
  have R95 := Lib.hid o5
  have U96 := Lib.hid (under_of o5)
  have S97 := Lib.hid (sep_new o5 U9.out (by omega))
  have S98 := Lib.hid (sep_new o5 U25.out (by omega))
  have S99 := Lib.hid (sep_new o5 U87.out (by omega))
  clear o5
  clear b5
  go_wp2_with fail
  refine (eqI_same _ _ _ _ _ _ ys w13 hy2 (R95.out.nums HTG.out (Nat.le_refl _)) (R92.out.nums HTG.out (Nat.le_refl _))).mono ?_
  rintro e w' ⟨rfl, md, rfl⟩
  have b5 := below_drewN w13.heap.size w13 md
  generalize w13.drewN md = w14 at *
  have z100 : w13.heap.size ≤ w14.heap.size := b5.size
  have K101 := Lib.hid (K91.out.trans (b5.mono (by omega)))
  clear K91
  have R102 := Lib.hid (R92.out.below b5)
  clear R92
  have R103 := Lib.hid (R93.out.below b5)
  clear R93
  have R104 := Lib.hid (R94.out.below b5)
  clear R94
  have R105 := Lib.hid (R95.out.below b5)
  clear R95
  clear b5
  go_wp2_with fail
  refine (heldI_any _ 1 ys.length _ w14 (by omega) hy2 R103.out).mono ?_
  rintro e w' ⟨rfl, md, rfl⟩
  rw [← HKQ.out]
  have b5 := below_drewN w14.heap.size w14 md
  generalize w14.drewN md = w15 at *
  have z106 : w14.heap.size ≤ w15.heap.size := b5.size
  have K107 := Lib.hid (K101.out.trans (b5.mono (by omega)))
  clear K101
  have R108 := Lib.hid (R102.out.below b5)
  clear R102
  have R109 := Lib.hid (R103.out.below b5)
  clear R103
  have R110 := Lib.hid (R104.out.below b5)
  clear R104
  have R111 := Lib.hid (R105.out.below b5)
  clear R105
  clear b5
  go_wp2_with fail
  go_ret
  exact ⟨rfl, K107.out⟩

end Go.Proofs.Ytmiopbpahkgmbaa
