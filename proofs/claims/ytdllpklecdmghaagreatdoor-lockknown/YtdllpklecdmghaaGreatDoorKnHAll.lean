import Derived.Test.YtdllpklecdmghaaGreatDoorKnG
/- LockKnown: the row of 37 locks. -/
namespace Go.Proofs.YtdllpklecdmghaaGreatDoor
open Go.RowKit
open Lk (Lt)
section
variable {Q : Exit → Act → World → Prop} {a0 a : Act} {w0 w : World} {lb wb g9 c9 : Nat} {a3 : Option Addr} {c3 : Nat}
set_option maxHeartbeats 6000000
set_option maxRecDepth 10000
theorem hq87 : KqS Q a0 a w0 w lb wb g9 c9 a3 c3 87 kq87 := fun hx ho hb hd => by
  have m0 : LkV (.mk 0 [] 0 []) (gt a 29) w := hd ⟨0, .data⟩ (by simp [kq87]) (by decide)
  obtain ⟨v0, e0⟩ : ∃ kv, gt a 29 = .agg (lcs (.mk 0 [] 0 []) kv) := by obtain ⟨kv, _, e, _⟩ := m0; exact ⟨kv, e⟩
  rw [e0] at m0
  have m1 : LkV (.mk 7 [] 0 []) (gt a 30) w := hd ⟨1, .data⟩ (by simp [kq87]) (by decide)
  obtain ⟨v1, e1⟩ : ∃ kv, gt a 30 = .agg (lcs (.mk 7 [] 0 []) kv) := by obtain ⟨kv, _, e, _⟩ := m1; exact ⟨kv, e⟩
  rw [e1] at m1
  have m2 : LkV (.mk 1 [80, 110, 49, 59] 0 []) (gt a 31) w := hd ⟨2, .data⟩ (by simp [kq87]) (by decide)
  obtain ⟨v2, e2⟩ : ∃ kv, gt a 31 = .agg (lcs (.mk 1 [80, 110, 49, 59] 0 []) kv) := by obtain ⟨kv, _, e, _⟩ := m2; exact ⟨kv, e⟩
  rw [e2] at m2
  have m3 : LkV (.mk 1 [110, 49, 59] 0 []) (gt a 32) w := hd ⟨3, .data⟩ (by simp [kq87]) (by decide)
  obtain ⟨v3, e3⟩ : ∃ kv, gt a 32 = .agg (lcs (.mk 1 [110, 49, 59] 0 []) kv) := by obtain ⟨kv, _, e, _⟩ := m3; exact ⟨kv, e⟩
  rw [e3] at m3
  have m4 : LkV (.mk 1 [] 0 []) (gt a 33) w := hd ⟨4, .data⟩ (by simp [kq87]) (by decide)
  obtain ⟨v4, e4⟩ : ∃ kv, gt a 33 = .agg (lcs (.mk 1 [] 0 []) kv) := by obtain ⟨kv, _, e, _⟩ := m4; exact ⟨kv, e⟩
  rw [e4] at m4
  have m5 : LkV (.mk 1 [87, 80, 110, 49, 59, 80, 110, 50, 59] 0 []) (gt a 34) w := hd ⟨5, .data⟩ (by simp [kq87]) (by decide)
  obtain ⟨v5, e5⟩ : ∃ kv, gt a 34 = .agg (lcs (.mk 1 [87, 80, 110, 49, 59, 80, 110, 50, 59] 0 []) kv) := by obtain ⟨kv, _, e, _⟩ := m5; exact ⟨kv, e⟩
  rw [e5] at m5
  have m6 : LkV (.mk 1 [76, 80, 110, 49, 59, 116, 48, 58] 0 []) (gt a 35) w := hd ⟨6, .data⟩ (by simp [kq87]) (by decide)
  obtain ⟨v6, e6⟩ : ∃ kv, gt a 35 = .agg (lcs (.mk 1 [76, 80, 110, 49, 59, 116, 48, 58] 0 []) kv) := by obtain ⟨kv, _, e, _⟩ := m6; exact ⟨kv, e⟩
  rw [e6] at m6
  have m7 : LkV (.mk 1 [72, 110, 49, 59] 0 []) (gt a 36) w := hd ⟨7, .data⟩ (by simp [kq87]) (by decide)
  obtain ⟨v7, e7⟩ : ∃ kv, gt a 36 = .agg (lcs (.mk 1 [72, 110, 49, 59] 0 []) kv) := by obtain ⟨kv, _, e, _⟩ := m7; exact ⟨kv, e⟩
  rw [e7] at m7
  have m8 : LkV (.mk 2 [72, 110, 49, 59] 0 []) (gt a 37) w := hd ⟨8, .data⟩ (by simp [kq87]) (by decide)
  obtain ⟨v8, e8⟩ : ∃ kv, gt a 37 = .agg (lcs (.mk 2 [72, 110, 49, 59] 0 []) kv) := by obtain ⟨kv, _, e, _⟩ := m8; exact ⟨kv, e⟩
  rw [e8] at m8
  have m9 : LkV (.mk 2 [80, 110, 49, 59] 0 []) (gt a 38) w := hd ⟨9, .data⟩ (by simp [kq87]) (by decide)
  obtain ⟨v9, e9⟩ : ∃ kv, gt a 38 = .agg (lcs (.mk 2 [80, 110, 49, 59] 0 []) kv) := by obtain ⟨kv, _, e, _⟩ := m9; exact ⟨kv, e⟩
  rw [e9] at m9
  have m10 : LkV (.mk 2 [] 0 []) (gt a 39) w := hd ⟨10, .data⟩ (by simp [kq87]) (by decide)
  obtain ⟨v10, e10⟩ : ∃ kv, gt a 39 = .agg (lcs (.mk 2 [] 0 []) kv) := by obtain ⟨kv, _, e, _⟩ := m10; exact ⟨kv, e⟩
  rw [e10] at m10
  have m11 : LkV aft7 (gt a 40) w := hd ⟨11, .data⟩ (by simp [kq87]) (by decide)
  obtain ⟨v11, e11⟩ : ∃ kv, gt a 40 = .agg (lcs aft7 kv) := by obtain ⟨kv, _, e, _⟩ := m11; exact ⟨kv, e⟩
  rw [e11] at m11
  have m12 : LkV (.mk 3 [] (-1) []) (gt a 41) w := hd ⟨12, .data⟩ (by simp [kq87]) (by decide)
  obtain ⟨v12, e12⟩ : ∃ kv, gt a 41 = .agg (lcs (.mk 3 [] (-1) []) kv) := by obtain ⟨kv, _, e, _⟩ := m12; exact ⟨kv, e⟩
  rw [e12] at m12
  have m13 : LkV (.mk 3 [] (1073741823) []) (gt a 42) w := hd ⟨13, .data⟩ (by simp [kq87]) (by decide)
  obtain ⟨v13, e13⟩ : ∃ kv, gt a 42 = .agg (lcs (.mk 3 [] (1073741823) []) kv) := by obtain ⟨kv, _, e, _⟩ := m13; exact ⟨kv, e⟩
  rw [e13] at m13
  have m14 : LkV (.mk 3 [] (1073741824) []) (gt a 43) w := hd ⟨14, .data⟩ (by simp [kq87]) (by decide)
  obtain ⟨v14, e14⟩ : ∃ kv, gt a 43 = .agg (lcs (.mk 3 [] (1073741824) []) kv) := by obtain ⟨kv, _, e, _⟩ := m14; exact ⟨kv, e⟩
  rw [e14] at m14
  have m15 : LkV (.mk 4 [] (0) []) (gt a 44) w := hd ⟨15, .data⟩ (by simp [kq87]) (by decide)
  obtain ⟨v15, e15⟩ : ∃ kv, gt a 44 = .agg (lcs (.mk 4 [] (0) []) kv) := by obtain ⟨kv, _, e, _⟩ := m15; exact ⟨kv, e⟩
  rw [e15] at m15
  have m16 : LkV (.mk 4 [] (1073741824) []) (gt a 45) w := hd ⟨16, .data⟩ (by simp [kq87]) (by decide)
  obtain ⟨v16, e16⟩ : ∃ kv, gt a 45 = .agg (lcs (.mk 4 [] (1073741824) []) kv) := by obtain ⟨kv, _, e, _⟩ := m16; exact ⟨kv, e⟩
  rw [e16] at m16
  have m17 : LkV (.mk 5 [] 0 []) (gt a 46) w := hd ⟨17, .data⟩ (by simp [kq87]) (by decide)
  obtain ⟨v17, e17⟩ : ∃ kv, gt a 46 = .agg (lcs (.mk 5 [] 0 []) kv) := by obtain ⟨kv, _, e, _⟩ := m17; exact ⟨kv, e⟩
  rw [e17] at m17
  have m18 : LkV (.mk 6 [] 0 []) (gt a 47) w := hd ⟨18, .data⟩ (by simp [kq87]) (by decide)
  obtain ⟨v18, e18⟩ : ∃ kv, gt a 47 = .agg (lcs (.mk 6 [] 0 []) kv) := by obtain ⟨kv, _, e, _⟩ := m18; exact ⟨kv, e⟩
  rw [e18] at m18
  have m19 : LkV (.mk 5 [] 0 [aft7]) (gt a 50) w := hd ⟨21, .data⟩ (by simp [kq87]) (by decide)
  obtain ⟨v19, e19⟩ : ∃ kv, gt a 50 = .agg (lcs (.mk 5 [] 0 [aft7]) kv) := by obtain ⟨kv, _, e, _⟩ := m19; exact ⟨kv, e⟩
  rw [e19] at m19
  have m20 : LkV (.mk 6 [] 0 [aft7, (.mk 4 [] (2) [])]) (gt a 54) w := hd ⟨25, .data⟩ (by simp [kq87]) (by decide)
  obtain ⟨v20, e20⟩ : ∃ kv, gt a 54 = .agg (lcs (.mk 6 [] 0 [aft7, (.mk 4 [] (2) [])]) kv) := by obtain ⟨kv, _, e, _⟩ := m20; exact ⟨kv, e⟩
  rw [e20] at m20
  have m21 : LkV wide8 (gt a 55) w := hd ⟨26, .data⟩ (by simp [kq87]) (by decide)
  obtain ⟨v21, e21⟩ : ∃ kv, gt a 55 = .agg (lcs wide8 kv) := by obtain ⟨kv, _, e, _⟩ := m21; exact ⟨kv, e⟩
  rw [e21] at m21
  have m22 : LkV (.mk 6 [] 0 (List.replicate 9 aft7)) (gt a 57) w := hd ⟨28, .data⟩ (by simp [kq87]) (by decide)
  obtain ⟨v22, e22⟩ : ∃ kv, gt a 57 = .agg (lcs (.mk 6 [] 0 (List.replicate 9 aft7)) kv) := by obtain ⟨kv, _, e, _⟩ := m22; exact ⟨kv, e⟩
  rw [e22] at m22
  have m23 : LkV (.mk 5 [] 0 [wide8, wide8, wide8, wide8, wide8, wide8, wide8, wide8]) (gt a 67) w := hd ⟨38, .data⟩ (by simp [kq87]) (by decide)
  obtain ⟨v23, e23⟩ : ∃ kv, gt a 67 = .agg (lcs (.mk 5 [] 0 [wide8, wide8, wide8, wide8, wide8, wide8, wide8, wide8]) kv) := by obtain ⟨kv, _, e, _⟩ := m23; exact ⟨kv, e⟩
  rw [e23] at m23
  have m24 : LkV (.mk 5 [] 0 [wide8, wide8, wide8, wide8, wide8, wide8, (.mk 5 [] 0 (List.replicate 7 aft7))]) (gt a 78) w := hd ⟨49, .data⟩ (by simp [kq87]) (by decide)
  obtain ⟨v24, e24⟩ : ∃ kv, gt a 78 = .agg (lcs (.mk 5 [] 0 [wide8, wide8, wide8, wide8, wide8, wide8, (.mk 5 [] 0 (List.replicate 7 aft7))]) kv) := by obtain ⟨kv, _, e, _⟩ := m24; exact ⟨kv, e⟩
  rw [e24] at m24
  have m25 : LkV (.mk 5 [] 0 [wide8, wide8, wide8, wide8, wide8, wide8, wide8]) (gt a 87) w := hd ⟨58, .data⟩ (by simp [kq87]) (by decide)
  obtain ⟨v25, e25⟩ : ∃ kv, gt a 87 = .agg (lcs (.mk 5 [] 0 [wide8, wide8, wide8, wide8, wide8, wide8, wide8]) kv) := by obtain ⟨kv, _, e, _⟩ := m25; exact ⟨kv, e⟩
  rw [e25] at m25
  have m26 : LkV (.mk 5 [] 0 [wide8, (.mk 0 [] 0 [])]) (gt a 91) w := hd ⟨62, .data⟩ (by simp [kq87]) (by decide)
  obtain ⟨v26, e26⟩ : ∃ kv, gt a 91 = .agg (lcs (.mk 5 [] 0 [wide8, (.mk 0 [] 0 [])]) kv) := by obtain ⟨kv, _, e, _⟩ := m26; exact ⟨kv, e⟩
  rw [e26] at m26
  have m27 : LkV (.mk 3 [110, 49, 59] 1 []) (gt a 92) w := hd ⟨63, .data⟩ (by simp [kq87]) (by decide)
  obtain ⟨v27, e27⟩ : ∃ kv, gt a 92 = .agg (lcs (.mk 3 [110, 49, 59] 1 []) kv) := by obtain ⟨kv, _, e, _⟩ := m27; exact ⟨kv, e⟩
  rw [e27] at m27
  have m28 : LkV (.mk 1 [80, 110, 49, 59] 1 []) (gt a 93) w := hd ⟨64, .data⟩ (by simp [kq87]) (by decide)
  obtain ⟨v28, e28⟩ : ∃ kv, gt a 93 = .agg (lcs (.mk 1 [80, 110, 49, 59] 1 []) kv) := by obtain ⟨kv, _, e, _⟩ := m28; exact ⟨kv, e⟩
  rw [e28] at m28
  have m29 : LkV (.mk 2 [72, 110, 49, 59] 0 [aft7]) (gt a 96) w := hd ⟨67, .data⟩ (by simp [kq87]) (by decide)
  obtain ⟨v29, e29⟩ : ∃ kv, gt a 96 = .agg (lcs (.mk 2 [72, 110, 49, 59] 0 [aft7]) kv) := by obtain ⟨kv, _, e, _⟩ := m29; exact ⟨kv, e⟩
  rw [e29] at m29
  have m30 : LkV (.mk 5 [] 1 [aft7]) (gt a 99) w := hd ⟨70, .data⟩ (by simp [kq87]) (by decide)
  obtain ⟨v30, e30⟩ : ∃ kv, gt a 99 = .agg (lcs (.mk 5 [] 1 [aft7]) kv) := by obtain ⟨kv, _, e, _⟩ := m30; exact ⟨kv, e⟩
  rw [e30] at m30
  have m31 : LkV (.mk 6 [110, 49, 59] 0 [aft7]) (gt a 102) w := hd ⟨73, .data⟩ (by simp [kq87]) (by decide)
  obtain ⟨v31, e31⟩ : ∃ kv, gt a 102 = .agg (lcs (.mk 6 [110, 49, 59] 0 [aft7]) kv) := by obtain ⟨kv, _, e, _⟩ := m31; exact ⟨kv, e⟩
  rw [e31] at m31
  have m32 : LkV (.mk 4 [] 0 [aft7]) (gt a 105) w := hd ⟨76, .data⟩ (by simp [kq87]) (by decide)
  obtain ⟨v32, e32⟩ : ∃ kv, gt a 105 = .agg (lcs (.mk 4 [] 0 [aft7]) kv) := by obtain ⟨kv, _, e, _⟩ := m32; exact ⟨kv, e⟩
  rw [e32] at m32
  have m33 : LkV (deepL 62) (gt a 106) w := hd ⟨77, .data⟩ (by simp [kq87]) (by decide)
  obtain ⟨v33, e33⟩ : ∃ kv, gt a 106 = .agg (lcs (deepL 62) kv) := by obtain ⟨kv, _, e, _⟩ := m33; exact ⟨kv, e⟩
  rw [e33] at m33
  have m34 : LkV (deepL 63) (gt a 107) w := hd ⟨78, .data⟩ (by simp [kq87]) (by decide)
  obtain ⟨v34, e34⟩ : ∃ kv, gt a 107 = .agg (lcs (deepL 63) kv) := by obtain ⟨kv, _, e, _⟩ := m34; exact ⟨kv, e⟩
  rw [e34] at m34
  have m35 : LkV (deepL 64) (gt a 108) w := hd ⟨79, .data⟩ (by simp [kq87]) (by decide)
  obtain ⟨v35, e35⟩ : ∃ kv, gt a 108 = .agg (lcs (deepL 64) kv) := by obtain ⟨kv, _, e, _⟩ := m35; exact ⟨kv, e⟩
  rw [e35] at m35
  have m36 : LkV (.mk 6 [] 0 [(.mk 1 [80, 110, 49, 59] 0 []), (.mk 5 [] 0 [(.mk 2 [72, 110, 50, 59] 0 []), (.mk 4 [] (6) [])])]) (gt a 115) w := hd ⟨86, .data⟩ (by simp [kq87]) (by decide)
  obtain ⟨v36, e36⟩ : ∃ kv, gt a 115 = .agg (lcs (.mk 6 [] 0 [(.mk 1 [80, 110, 49, 59] 0 []), (.mk 5 [] 0 [(.mk 2 [72, 110, 50, 59] 0 []), (.mk 4 [] (6) [])])]) kv) := by obtain ⟨kv, _, e, _⟩ := m36; exact ⟨kv, e⟩
  rw [e36] at m36
  have hr := ex_row a w [((.mk 0 [] 0 []), v0), ((.mk 7 [] 0 []), v1), ((.mk 1 [80, 110, 49, 59] 0 []), v2), ((.mk 1 [110, 49, 59] 0 []), v3), ((.mk 1 [] 0 []), v4), ((.mk 1 [87, 80, 110, 49, 59, 80, 110, 50, 59] 0 []), v5), ((.mk 1 [76, 80, 110, 49, 59, 116, 48, 58] 0 []), v6), ((.mk 1 [72, 110, 49, 59] 0 []), v7), ((.mk 2 [72, 110, 49, 59] 0 []), v8), ((.mk 2 [80, 110, 49, 59] 0 []), v9), ((.mk 2 [] 0 []), v10), (aft7, v11), ((.mk 3 [] (-1) []), v12), ((.mk 3 [] (1073741823) []), v13), ((.mk 3 [] (1073741824) []), v14), ((.mk 4 [] (0) []), v15), ((.mk 4 [] (1073741824) []), v16), ((.mk 5 [] 0 []), v17), ((.mk 6 [] 0 []), v18), ((.mk 5 [] 0 [aft7]), v19), ((.mk 6 [] 0 [aft7, (.mk 4 [] (2) [])]), v20), (wide8, v21), ((.mk 6 [] 0 (List.replicate 9 aft7)), v22), ((.mk 5 [] 0 [wide8, wide8, wide8, wide8, wide8, wide8, wide8, wide8]), v23), ((.mk 5 [] 0 [wide8, wide8, wide8, wide8, wide8, wide8, (.mk 5 [] 0 (List.replicate 7 aft7))]), v24), ((.mk 5 [] 0 [wide8, wide8, wide8, wide8, wide8, wide8, wide8]), v25), ((.mk 5 [] 0 [wide8, (.mk 0 [] 0 [])]), v26), ((.mk 3 [110, 49, 59] 1 []), v27), ((.mk 1 [80, 110, 49, 59] 1 []), v28), ((.mk 2 [72, 110, 49, 59] 0 [aft7]), v29), ((.mk 5 [] 1 [aft7]), v30), ((.mk 6 [110, 49, 59] 0 [aft7]), v31), ((.mk 4 [] 0 [aft7]), v32), ((deepL 62), v33), ((deepL 63), v34), ((deepL 64), v35), ((.mk 6 [] 0 [(.mk 1 [80, 110, 49, 59] 0 []), (.mk 5 [] 0 [(.mk 2 [72, 110, 50, 59] 0 []), (.mk 4 [] (6) [])])]), v36)] 37 _ kq87 rfl rfl (by decide) (by decide) (by simp only [ev_tmp, e0, ev_tmp, e1, ev_tmp, e2, ev_tmp, e3, ev_tmp, e4, ev_tmp, e5, ev_tmp, e6, ev_tmp, e7, ev_tmp, e8, ev_tmp, e9, ev_tmp, e10, ev_tmp, e11, ev_tmp, e12, ev_tmp, e13, ev_tmp, e14, ev_tmp, e15, ev_tmp, e16, ev_tmp, e17, ev_tmp, e18, ev_tmp, e19, ev_tmp, e20, ev_tmp, e21, ev_tmp, e22, ev_tmp, e23, ev_tmp, e24, ev_tmp, e25, ev_tmp, e26, ev_tmp, e27, ev_tmp, e28, ev_tmp, e29, ev_tmp, e30, ev_tmp, e31, ev_tmp, e32, ev_tmp, e33, ev_tmp, e34, ev_tmp, e35, ev_tmp, e36, List.map_toArray, List.map_cons, List.map_nil]; rfl)
  have hw := row_new w [((.mk 0 [] 0 []), v0), ((.mk 7 [] 0 []), v1), ((.mk 1 [80, 110, 49, 59] 0 []), v2), ((.mk 1 [110, 49, 59] 0 []), v3), ((.mk 1 [] 0 []), v4), ((.mk 1 [87, 80, 110, 49, 59, 80, 110, 50, 59] 0 []), v5), ((.mk 1 [76, 80, 110, 49, 59, 116, 48, 58] 0 []), v6), ((.mk 1 [72, 110, 49, 59] 0 []), v7), ((.mk 2 [72, 110, 49, 59] 0 []), v8), ((.mk 2 [80, 110, 49, 59] 0 []), v9), ((.mk 2 [] 0 []), v10), (aft7, v11), ((.mk 3 [] (-1) []), v12), ((.mk 3 [] (1073741823) []), v13), ((.mk 3 [] (1073741824) []), v14), ((.mk 4 [] (0) []), v15), ((.mk 4 [] (1073741824) []), v16), ((.mk 5 [] 0 []), v17), ((.mk 6 [] 0 []), v18), ((.mk 5 [] 0 [aft7]), v19), ((.mk 6 [] 0 [aft7, (.mk 4 [] (2) [])]), v20), (wide8, v21), ((.mk 6 [] 0 (List.replicate 9 aft7)), v22), ((.mk 5 [] 0 [wide8, wide8, wide8, wide8, wide8, wide8, wide8, wide8]), v23), ((.mk 5 [] 0 [wide8, wide8, wide8, wide8, wide8, wide8, (.mk 5 [] 0 (List.replicate 7 aft7))]), v24), ((.mk 5 [] 0 [wide8, wide8, wide8, wide8, wide8, wide8, wide8]), v25), ((.mk 5 [] 0 [wide8, (.mk 0 [] 0 [])]), v26), ((.mk 3 [110, 49, 59] 1 []), v27), ((.mk 1 [80, 110, 49, 59] 1 []), v28), ((.mk 2 [72, 110, 49, 59] 0 [aft7]), v29), ((.mk 5 [] 1 [aft7]), v30), ((.mk 6 [110, 49, 59] 0 [aft7]), v31), ((.mk 4 [] 0 [aft7]), v32), ((deepL 62), v33), ((deepL 63), v34), ((deepL 64), v35), ((.mk 6 [] 0 [(.mk 1 [80, 110, 49, 59] 0 []), (.mk 5 [] 0 [(.mk 2 [72, 110, 50, 59] 0 []), (.mk 4 [] (6) [])])]), v36)] 37 37 rfl (by decide) (by simp only [List.forall_mem_cons]; exact ⟨m0, m1, m2, m3, m4, m5, m6, m7, m8, m9, m10, m11, m12, m13, m14, m15, m16, m17, m18, m19, m20, m21, m22, m23, m24, m25, m26, m27, m28, m29, m30, m31, m32, m33, m34, m35, m36, fun _ h => absurd h (by simp)⟩)
  simp only [List.map_cons, List.map_nil] at hw
  exact op_ok (i := 87) (o := kq87) rfl rfl hr ⟨_, rfl, below_al _ _, hw, _, _, rfl, Nat.le_refl _⟩
end
end Go.Proofs.YtdllpklecdmghaaGreatDoor
/- LockKnown: its list of locks, whatever order is drawn. -/
namespace Go.Proofs.YtdllpklecdmghaaGreatDoor
open Go.RowKit
open Lk (Lt)
theorem kqD_mem (i : Nat) (h : i < 89) : kqD i ∈ kqDs := List.mem_map.2 ⟨i, List.mem_range.2 h, rfl⟩
theorem kqD_inj (i j : Nat) (hi : i < 89) (hj : j < 89) (h : i ≠ j) : kqD i ≠ kqD j := by
  unfold kqD
  split <;> split <;> omega
theorem kqD_lt (i : Nat) (h : i < 89) : kqD i < 118 := by
  unfold kqD
  split <;> omega
set_option maxHeartbeats 4000000 in
set_option maxRecDepth 10000 in
theorem reg8 {Q : Exit → Act → World → Prop} {a0 : Act} {w0 : World} {lb wb g9 c9 : Nat} {a3 : Option Addr} {c3 : Nat} (hx : Kx a0 w0 lb wb g9 c9 a3 c3) (hz : 118 ≤ a0.tmps.size)
    (hQ : ∀ a w, Off kqDs a0 a → Below w0.heap.size w0 w → (kqF g9 c9 88).ok (gt a 5) w → Q .normal a w) : (Code.region 8 kqs true).wp Tryz.prog Q a0 w0 := by
  refine region_adds kqDs kqD (fun i => (kqF g9 c9 i).ok) rfl kqs_back (fun i hi => ⟨kqD_mem i hi, Nat.lt_of_lt_of_le (kqD_lt i hi) hz⟩) (fun i j hi hj => kqD_inj i j hi hj) (fun i v w w' hb h => Sq.up h hb) ?_ (fun a w ho hb h => hQ a w ho hb (h 88 (by decide)))
  intro i o a w ho hoff hbel hdeps
  obtain ⟨hi, he⟩ := Array.getElem?_eq_some_iff.1 ho
  have hi : i < 89 := hi
  clear he
  exact (show wpOp Tryz.prog kqs Q i (fun a' w' => ∃ v, a' = a.put (some (kqD i)) v ∧ Below w.heap.size w w' ∧ (kqF g9 c9 i).ok v w') a w by
    match i, ho with
    | 0, h => (cases h; exact hq0 hx hoff hbel hdeps)
    | 1, h => (cases h; exact hq1 hx hoff hbel hdeps)
    | 2, h => (cases h; exact hq2 hx hoff hbel hdeps)
    | 3, h => (cases h; exact hq3 hx hoff hbel hdeps)
    | 4, h => (cases h; exact hq4 hx hoff hbel hdeps)
    | 5, h => (cases h; exact hq5 hx hoff hbel hdeps)
    | 6, h => (cases h; exact hq6 hx hoff hbel hdeps)
    | 7, h => (cases h; exact hq7 hx hoff hbel hdeps)
    | 8, h => (cases h; exact hq8 hx hoff hbel hdeps)
    | 9, h => (cases h; exact hq9 hx hoff hbel hdeps)
    | 10, h => (cases h; exact hq10 hx hoff hbel hdeps)
    | 11, h => (cases h; exact hq11 hx hoff hbel hdeps)
    | 12, h => (cases h; exact hq12 hx hoff hbel hdeps)
    | 13, h => (cases h; exact hq13 hx hoff hbel hdeps)
    | 14, h => (cases h; exact hq14 hx hoff hbel hdeps)
    | 15, h => (cases h; exact hq15 hx hoff hbel hdeps)
    | 16, h => (cases h; exact hq16 hx hoff hbel hdeps)
    | 17, h => (cases h; exact hq17 hx hoff hbel hdeps)
    | 18, h => (cases h; exact hq18 hx hoff hbel hdeps)
    | 19, h => (cases h; exact hq19 hx hoff hbel hdeps)
    | 20, h => (cases h; exact hq20 hx hoff hbel hdeps)
    | 21, h => (cases h; exact hq21 hx hoff hbel hdeps)
    | 22, h => (cases h; exact hq22 hx hoff hbel hdeps)
    | 23, h => (cases h; exact hq23 hx hoff hbel hdeps)
    | 24, h => (cases h; exact hq24 hx hoff hbel hdeps)
    | 25, h => (cases h; exact hq25 hx hoff hbel hdeps)
    | 26, h => (cases h; exact hq26 hx hoff hbel hdeps)
    | 27, h => (cases h; exact hq27 hx hoff hbel hdeps)
    | 28, h => (cases h; exact hq28 hx hoff hbel hdeps)
    | 29, h => (cases h; exact hq29 hx hoff hbel hdeps)
    | 30, h => (cases h; exact hq30 hx hoff hbel hdeps)
    | 31, h => (cases h; exact hq31 hx hoff hbel hdeps)
    | 32, h => (cases h; exact hq32 hx hoff hbel hdeps)
    | 33, h => (cases h; exact hq33 hx hoff hbel hdeps)
    | 34, h => (cases h; exact hq34 hx hoff hbel hdeps)
    | 35, h => (cases h; exact hq35 hx hoff hbel hdeps)
    | 36, h => (cases h; exact hq36 hx hoff hbel hdeps)
    | 37, h => (cases h; exact hq37 hx hoff hbel hdeps)
    | 38, h => (cases h; exact hq38 hx hoff hbel hdeps)
    | 39, h => (cases h; exact hq39 hx hoff hbel hdeps)
    | 40, h => (cases h; exact hq40 hx hoff hbel hdeps)
    | 41, h => (cases h; exact hq41 hx hoff hbel hdeps)
    | 42, h => (cases h; exact hq42 hx hoff hbel hdeps)
    | 43, h => (cases h; exact hq43 hx hoff hbel hdeps)
    | 44, h => (cases h; exact hq44 hx hoff hbel hdeps)
    | 45, h => (cases h; exact hq45 hx hoff hbel hdeps)
    | 46, h => (cases h; exact hq46 hx hoff hbel hdeps)
    | 47, h => (cases h; exact hq47 hx hoff hbel hdeps)
    | 48, h => (cases h; exact hq48 hx hoff hbel hdeps)
    | 49, h => (cases h; exact hq49 hx hoff hbel hdeps)
    | 50, h => (cases h; exact hq50 hx hoff hbel hdeps)
    | 51, h => (cases h; exact hq51 hx hoff hbel hdeps)
    | 52, h => (cases h; exact hq52 hx hoff hbel hdeps)
    | 53, h => (cases h; exact hq53 hx hoff hbel hdeps)
    | 54, h => (cases h; exact hq54 hx hoff hbel hdeps)
    | 55, h => (cases h; exact hq55 hx hoff hbel hdeps)
    | 56, h => (cases h; exact hq56 hx hoff hbel hdeps)
    | 57, h => (cases h; exact hq57 hx hoff hbel hdeps)
    | 58, h => (cases h; exact hq58 hx hoff hbel hdeps)
    | 59, h => (cases h; exact hq59 hx hoff hbel hdeps)
    | 60, h => (cases h; exact hq60 hx hoff hbel hdeps)
    | 61, h => (cases h; exact hq61 hx hoff hbel hdeps)
    | 62, h => (cases h; exact hq62 hx hoff hbel hdeps)
    | 63, h => (cases h; exact hq63 hx hoff hbel hdeps)
    | 64, h => (cases h; exact hq64 hx hoff hbel hdeps)
    | 65, h => (cases h; exact hq65 hx hoff hbel hdeps)
    | 66, h => (cases h; exact hq66 hx hoff hbel hdeps)
    | 67, h => (cases h; exact hq67 hx hoff hbel hdeps)
    | 68, h => (cases h; exact hq68 hx hoff hbel hdeps)
    | 69, h => (cases h; exact hq69 hx hoff hbel hdeps)
    | 70, h => (cases h; exact hq70 hx hoff hbel hdeps)
    | 71, h => (cases h; exact hq71 hx hoff hbel hdeps)
    | 72, h => (cases h; exact hq72 hx hoff hbel hdeps)
    | 73, h => (cases h; exact hq73 hx hoff hbel hdeps)
    | 74, h => (cases h; exact hq74 hx hoff hbel hdeps)
    | 75, h => (cases h; exact hq75 hx hoff hbel hdeps)
    | 76, h => (cases h; exact hq76 hx hoff hbel hdeps)
    | 77, h => (cases h; exact hq77 hx hoff hbel hdeps)
    | 78, h => (cases h; exact hq78 hx hoff hbel hdeps)
    | 79, h => (cases h; exact hq79 hx hoff hbel hdeps)
    | 80, h => (cases h; exact hq80 hx hoff hbel hdeps)
    | 81, h => (cases h; exact hq81 hx hoff hbel hdeps)
    | 82, h => (cases h; exact hq82 hx hoff hbel hdeps)
    | 83, h => (cases h; exact hq83 hx hoff hbel hdeps)
    | 84, h => (cases h; exact hq84 hx hoff hbel hdeps)
    | 85, h => (cases h; exact hq85 hx hoff hbel hdeps)
    | 86, h => (cases h; exact hq86 hx hoff hbel hdeps)
    | 87, h => (cases h; exact hq87 hx hoff hbel hdeps)
    | 88, h => (cases h; exact hq88 hx hoff hbel hdeps)
    | k + 89, _ => omega)
end Go.Proofs.YtdllpklecdmghaaGreatDoor
