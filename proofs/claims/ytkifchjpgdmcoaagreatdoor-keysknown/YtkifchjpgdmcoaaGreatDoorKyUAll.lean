import Derived.Test.YtkifchjpgdmcoaaGreatDoorKyEAll
/- Keys: a region that reads a row of terms and stores them, whatever order is drawn. -/
namespace Go.Proofs.YtkifchjpgdmcoaaGreatDoor
open Go.RowKit
def rp0 : Oper := { dst := some 39, op := Op.move (Operand.tmp 4), type := 39, pos := "ref.go:60", after := #[], guard := none }
def rp1 : Oper := { dst := some 40, op := Op.indexAddr 39 (Operand.tmp 39) (Operand.const (Value.int IntKind.i64 0)), type := 0, pos := "ref.go:60", after := #[{ on := 0, ground := Go.Ground.data }], guard := none }
def rp2 : Oper := { dst := some 41, op := Op.load 22 (Operand.tmp 40), type := 22, pos := "ref.go:60", after := #[{ on := 1, ground := Go.Ground.data }], guard := none }
def rp3 : Oper := { dst := some 42, op := Op.move (Operand.tmp 4), type := 39, pos := "ref.go:60", after := #[], guard := none }
def rp4 : Oper := { dst := some 43, op := Op.indexAddr 39 (Operand.tmp 42) (Operand.const (Value.int IntKind.i64 1)), type := 0, pos := "ref.go:60", after := #[{ on := 3, ground := Go.Ground.data }], guard := none }
def rp5 : Oper := { dst := some 44, op := Op.load 22 (Operand.tmp 43), type := 22, pos := "ref.go:60", after := #[{ on := 4, ground := Go.Ground.data }], guard := none }
def rp6 : Oper := { dst := some 45, op := Op.move (Operand.tmp 4), type := 39, pos := "ref.go:60", after := #[], guard := none }
def rp7 : Oper := { dst := some 46, op := Op.indexAddr 39 (Operand.tmp 45) (Operand.const (Value.int IntKind.i64 2)), type := 0, pos := "ref.go:60", after := #[{ on := 6, ground := Go.Ground.data }], guard := none }
def rp8 : Oper := { dst := some 47, op := Op.load 22 (Operand.tmp 46), type := 22, pos := "ref.go:60", after := #[{ on := 7, ground := Go.Ground.data }], guard := none }
def rp9 : Oper := { dst := some 48, op := Op.move (Operand.tmp 4), type := 39, pos := "ref.go:60", after := #[], guard := none }
def rp10 : Oper := { dst := some 49, op := Op.indexAddr 39 (Operand.tmp 48) (Operand.const (Value.int IntKind.i64 3)), type := 0, pos := "ref.go:60", after := #[{ on := 9, ground := Go.Ground.data }], guard := none }
def rp11 : Oper := { dst := some 50, op := Op.load 22 (Operand.tmp 49), type := 22, pos := "ref.go:60", after := #[{ on := 10, ground := Go.Ground.data }], guard := none }
def rp12 : Oper := { dst := some 51, op := Op.move (Operand.tmp 4), type := 39, pos := "ref.go:60", after := #[], guard := none }
def rp13 : Oper := { dst := some 52, op := Op.indexAddr 39 (Operand.tmp 51) (Operand.const (Value.int IntKind.i64 4)), type := 0, pos := "ref.go:60", after := #[{ on := 12, ground := Go.Ground.data }], guard := none }
def rp14 : Oper := { dst := some 53, op := Op.load 22 (Operand.tmp 52), type := 22, pos := "ref.go:60", after := #[{ on := 13, ground := Go.Ground.data }], guard := none }
def rp15 : Oper := { dst := some 54, op := Op.build 33 #[(0, Operand.tmp 41), (1, Operand.tmp 44), (2, Operand.tmp 47), (3, Operand.tmp 50), (4, Operand.tmp 53)], type := 33, pos := "ref.go:60", after := #[{ on := 2, ground := Go.Ground.data }, { on := 5, ground := Go.Ground.data }, { on := 8, ground := Go.Ground.data }, { on := 11, ground := Go.Ground.data }, { on := 14, ground := Go.Ground.data }], guard := none }
def rp16 : Oper := { dst := none, op := Op.store 33 (Operand.tmp 2) (Operand.tmp 54), type := 0, pos := "ref.go:60", after := #[{ on := 15, ground := Go.Ground.data }, { on := 0, ground := Go.Ground.phase }, { on := 1, ground := Go.Ground.phase }, { on := 2, ground := Go.Ground.phase }, { on := 3, ground := Go.Ground.phase }, { on := 4, ground := Go.Ground.phase }, { on := 5, ground := Go.Ground.phase }, { on := 6, ground := Go.Ground.phase }, { on := 7, ground := Go.Ground.phase }, { on := 8, ground := Go.Ground.phase }, { on := 9, ground := Go.Ground.phase }, { on := 10, ground := Go.Ground.phase }, { on := 11, ground := Go.Ground.phase }, { on := 12, ground := Go.Ground.phase }, { on := 13, ground := Go.Ground.phase }, { on := 14, ground := Go.Ground.phase }, { on := 15, ground := Go.Ground.phase }], guard := none }
def rp17 : Oper := { dst := some 3, op := Op.assign (Operand.const (Value.int IntKind.i64 0)), type := 29, pos := "ref.go:60", after := #[{ on := 16, ground := Go.Ground.chain }, { on := 0, ground := Go.Ground.phase }, { on := 1, ground := Go.Ground.phase }, { on := 2, ground := Go.Ground.phase }, { on := 3, ground := Go.Ground.phase }, { on := 4, ground := Go.Ground.phase }, { on := 5, ground := Go.Ground.phase }, { on := 6, ground := Go.Ground.phase }, { on := 7, ground := Go.Ground.phase }, { on := 8, ground := Go.Ground.phase }, { on := 9, ground := Go.Ground.phase }, { on := 10, ground := Go.Ground.phase }, { on := 11, ground := Go.Ground.phase }, { on := 12, ground := Go.Ground.phase }, { on := 13, ground := Go.Ground.phase }, { on := 14, ground := Go.Ground.phase }, { on := 15, ground := Go.Ground.phase }, { on := 16, ground := Go.Ground.phase }], guard := none }
def rps : Array Oper := #[rp0, rp1, rp2, rp3, rp4, rp5, rp6, rp7, rp8, rp9, rp10, rp11, rp12, rp13, rp14, rp15, rp16, rp17]
theorem rps_size : rps.size = 18 := rfl
set_option maxRecDepth 10000 in
theorem rps_back (i : Nat) (o : Oper) (h : rps[i]? = some o) : ∀ e ∈ o.after, e.on < i := by
 have hall : ∀ j : Fin 18, ∀ e ∈ (rps[j.1]'(by have := j.2; have := rps_size; omega)).after, e.on < j.1 := by decide +kernel
 obtain ⟨hi, rfl⟩ := Array.getElem?_eq_some_iff.1 h
 exact hall ⟨i, by have := rps_size; omega⟩
def rpD : Nat → Nat
 | 0 => 39
 | 1 => 40
 | 2 => 41
 | 3 => 42
 | 4 => 43
 | 5 => 44
 | 6 => 45
 | 7 => 46
 | 8 => 47
 | 9 => 48
 | 10 => 49
 | 11 => 50
 | 12 => 51
 | 13 => 52
 | 14 => 53
 | 15 => 54
 | 17 => 3
 | _ => 0
def rpDs : List Nat := ((List.range 18).filter (· ≠ 16)).map rpD
set_option maxRecDepth 10000 in
theorem rpD_mem : ∀ i : Fin 18, i.1 ≠ 16 → rpD i.1 ∈ rpDs ∧ rpD i.1 < 55 := by decide +kernel
set_option maxRecDepth 10000 in
theorem rpD_inj : ∀ i j : Fin 18, i.1 ≠ 16 → j.1 ≠ 16 → i ≠ j → rpD i.1 ≠ rpD j.1 := by decide +kernel
def rpV (t0 : Bs) (t1 : Bs) (t2 : Bs) (t3 : Bs) (t4 : Bs) (g : Nat) (c : Nat) : Nat → Value
 | 0 => (.slice (some ⟨g, 0, none⟩) 5 c)
 | 1 => .pointer (some ⟨g, 0, none⟩)
 | 2 => St t0
 | 3 => (.slice (some ⟨g, 0, none⟩) 5 c)
 | 4 => .pointer (some ⟨g, 1, none⟩)
 | 5 => St t1
 | 6 => (.slice (some ⟨g, 0, none⟩) 5 c)
 | 7 => .pointer (some ⟨g, 2, none⟩)
 | 8 => St t2
 | 9 => (.slice (some ⟨g, 0, none⟩) 5 c)
 | 10 => .pointer (some ⟨g, 3, none⟩)
 | 11 => St t3
 | 12 => (.slice (some ⟨g, 0, none⟩) 5 c)
 | 13 => .pointer (some ⟨g, 4, none⟩)
 | 14 => St t4
 | 15 => .agg #[St t0, St t1, St t2, St t3, St t4]
 | 17 => .int .i64 0
 | _ => undef
structure rpAt (t0 t1 t2 t3 t4 : Bs) (g : Nat) (W : World) : Prop where
 c0 : W.cell? ⟨g, 0, none⟩ = some (St t0)
 c1 : W.cell? ⟨g, 1, none⟩ = some (St t1)
 c2 : W.cell? ⟨g, 2, none⟩ = some (St t2)
 c3 : W.cell? ⟨g, 3, none⟩ = some (St t3)
 c4 : W.cell? ⟨g, 4, none⟩ = some (St t4)
section
variable {t0 t1 t2 t3 t4 : Bs} {g c : Nat}
theorem rpx0 (a : Act) (W : World) (h0 : gt a 4 = (.slice (some ⟨g, 0, none⟩) 5 c)) : (execOp a.eval rp0).run Tryz.prog W = .ok (.value ((.slice (some ⟨g, 0, none⟩) 5 c))) W := by
 have g0 := gt_eq h0
 clear h0
 simp only [execOp, rp0]
 go_simp
theorem rph0 {Q : Exit → Act → World → Prop} {a0 a : Act} {w : World} (er : gt a0 4 = (.slice (some ⟨g, 0, none⟩) 5 c)) (ho : Off rpDs a0 a) (_hc : rpAt t0 t1 t2 t3 t4 g w)
   (_hd : ∀ e ∈ (rp0).after, Region.binds .any e = true → e.on ≠ 16 → gt a (rpD e.on) = rpV t0 t1 t2 t3 t4 g c e.on) : wpOp Tryz.prog rps Q 0 (fun a' w' => a' = a.put (some (rpD 0)) (rpV t0 t1 t2 t3 t4 g c 0) ∧ w' = w) a w :=
 op_ok (i := 0) (o := rp0) rfl rfl (rpx0 a w ((ho.slot (by decide)).trans er)) ⟨rfl, rfl⟩
theorem rpx1 (a : Act) (W : World) (h0 : gt a 39 = (.slice (some ⟨g, 0, none⟩) 5 c)) : (execOp a.eval rp1).run Tryz.prog W = .ok (.value (.pointer (some ⟨g, 0, none⟩))) W := by
 have g0 := gt_eq h0
 clear h0
 simp only [execOp, rp1]
 go_simp
theorem rph1 {Q : Exit → Act → World → Prop} {a0 a : Act} {w : World} (_er : gt a0 4 = (.slice (some ⟨g, 0, none⟩) 5 c)) (_ho : Off rpDs a0 a) (_hc : rpAt t0 t1 t2 t3 t4 g w)
   (hd : ∀ e ∈ (rp1).after, Region.binds .any e = true → e.on ≠ 16 → gt a (rpD e.on) = rpV t0 t1 t2 t3 t4 g c e.on) : wpOp Tryz.prog rps Q 1 (fun a' w' => a' = a.put (some (rpD 1)) (rpV t0 t1 t2 t3 t4 g c 1) ∧ w' = w) a w :=
 op_ok (i := 1) (o := rp1) rfl rfl (rpx1 a w (hd { on := 0, ground := Go.Ground.data } (by simp [rp1]) (by decide) (by decide))) ⟨rfl, rfl⟩
theorem rpx2 (a : Act) (W : World) (h0 : gt a 40 = .pointer (some ⟨g, 0, none⟩)) (cc : W.cell? ⟨g, 0, none⟩ = some (St t0)) : (execOp a.eval rp2).run Tryz.prog W = .ok (.value (St t0)) W := by
 have g0 := gt_eq h0
 clear h0
 simp only [execOp, rp2]
 go_simp
theorem rph2 {Q : Exit → Act → World → Prop} {a0 a : Act} {w : World} (_er : gt a0 4 = (.slice (some ⟨g, 0, none⟩) 5 c)) (_ho : Off rpDs a0 a) (hc : rpAt t0 t1 t2 t3 t4 g w)
   (hd : ∀ e ∈ (rp2).after, Region.binds .any e = true → e.on ≠ 16 → gt a (rpD e.on) = rpV t0 t1 t2 t3 t4 g c e.on) : wpOp Tryz.prog rps Q 2 (fun a' w' => a' = a.put (some (rpD 2)) (rpV t0 t1 t2 t3 t4 g c 2) ∧ w' = w) a w :=
 op_ok (i := 2) (o := rp2) rfl rfl (rpx2 a w (hd { on := 1, ground := Go.Ground.data } (by simp [rp2]) (by decide) (by decide)) hc.c0) ⟨rfl, rfl⟩
theorem rpx3 (a : Act) (W : World) (h0 : gt a 4 = (.slice (some ⟨g, 0, none⟩) 5 c)) : (execOp a.eval rp3).run Tryz.prog W = .ok (.value ((.slice (some ⟨g, 0, none⟩) 5 c))) W := by
 have g0 := gt_eq h0
 clear h0
 simp only [execOp, rp3]
 go_simp
theorem rph3 {Q : Exit → Act → World → Prop} {a0 a : Act} {w : World} (er : gt a0 4 = (.slice (some ⟨g, 0, none⟩) 5 c)) (ho : Off rpDs a0 a) (_hc : rpAt t0 t1 t2 t3 t4 g w)
   (_hd : ∀ e ∈ (rp3).after, Region.binds .any e = true → e.on ≠ 16 → gt a (rpD e.on) = rpV t0 t1 t2 t3 t4 g c e.on) : wpOp Tryz.prog rps Q 3 (fun a' w' => a' = a.put (some (rpD 3)) (rpV t0 t1 t2 t3 t4 g c 3) ∧ w' = w) a w :=
 op_ok (i := 3) (o := rp3) rfl rfl (rpx3 a w ((ho.slot (by decide)).trans er)) ⟨rfl, rfl⟩
theorem rpx4 (a : Act) (W : World) (h0 : gt a 42 = (.slice (some ⟨g, 0, none⟩) 5 c)) : (execOp a.eval rp4).run Tryz.prog W = .ok (.value (.pointer (some ⟨g, 1, none⟩))) W := by
 have g0 := gt_eq h0
 clear h0
 simp only [execOp, rp4]
 go_simp
theorem rph4 {Q : Exit → Act → World → Prop} {a0 a : Act} {w : World} (_er : gt a0 4 = (.slice (some ⟨g, 0, none⟩) 5 c)) (_ho : Off rpDs a0 a) (_hc : rpAt t0 t1 t2 t3 t4 g w)
   (hd : ∀ e ∈ (rp4).after, Region.binds .any e = true → e.on ≠ 16 → gt a (rpD e.on) = rpV t0 t1 t2 t3 t4 g c e.on) : wpOp Tryz.prog rps Q 4 (fun a' w' => a' = a.put (some (rpD 4)) (rpV t0 t1 t2 t3 t4 g c 4) ∧ w' = w) a w :=
 op_ok (i := 4) (o := rp4) rfl rfl (rpx4 a w (hd { on := 3, ground := Go.Ground.data } (by simp [rp4]) (by decide) (by decide))) ⟨rfl, rfl⟩
theorem rpx5 (a : Act) (W : World) (h0 : gt a 43 = .pointer (some ⟨g, 1, none⟩)) (cc : W.cell? ⟨g, 1, none⟩ = some (St t1)) : (execOp a.eval rp5).run Tryz.prog W = .ok (.value (St t1)) W := by
 have g0 := gt_eq h0
 clear h0
 simp only [execOp, rp5]
 go_simp
theorem rph5 {Q : Exit → Act → World → Prop} {a0 a : Act} {w : World} (_er : gt a0 4 = (.slice (some ⟨g, 0, none⟩) 5 c)) (_ho : Off rpDs a0 a) (hc : rpAt t0 t1 t2 t3 t4 g w)
   (hd : ∀ e ∈ (rp5).after, Region.binds .any e = true → e.on ≠ 16 → gt a (rpD e.on) = rpV t0 t1 t2 t3 t4 g c e.on) : wpOp Tryz.prog rps Q 5 (fun a' w' => a' = a.put (some (rpD 5)) (rpV t0 t1 t2 t3 t4 g c 5) ∧ w' = w) a w :=
 op_ok (i := 5) (o := rp5) rfl rfl (rpx5 a w (hd { on := 4, ground := Go.Ground.data } (by simp [rp5]) (by decide) (by decide)) hc.c1) ⟨rfl, rfl⟩
theorem rpx6 (a : Act) (W : World) (h0 : gt a 4 = (.slice (some ⟨g, 0, none⟩) 5 c)) : (execOp a.eval rp6).run Tryz.prog W = .ok (.value ((.slice (some ⟨g, 0, none⟩) 5 c))) W := by
 have g0 := gt_eq h0
 clear h0
 simp only [execOp, rp6]
 go_simp
theorem rph6 {Q : Exit → Act → World → Prop} {a0 a : Act} {w : World} (er : gt a0 4 = (.slice (some ⟨g, 0, none⟩) 5 c)) (ho : Off rpDs a0 a) (_hc : rpAt t0 t1 t2 t3 t4 g w)
   (_hd : ∀ e ∈ (rp6).after, Region.binds .any e = true → e.on ≠ 16 → gt a (rpD e.on) = rpV t0 t1 t2 t3 t4 g c e.on) : wpOp Tryz.prog rps Q 6 (fun a' w' => a' = a.put (some (rpD 6)) (rpV t0 t1 t2 t3 t4 g c 6) ∧ w' = w) a w :=
 op_ok (i := 6) (o := rp6) rfl rfl (rpx6 a w ((ho.slot (by decide)).trans er)) ⟨rfl, rfl⟩
theorem rpx7 (a : Act) (W : World) (h0 : gt a 45 = (.slice (some ⟨g, 0, none⟩) 5 c)) : (execOp a.eval rp7).run Tryz.prog W = .ok (.value (.pointer (some ⟨g, 2, none⟩))) W := by
 have g0 := gt_eq h0
 clear h0
 simp only [execOp, rp7]
 go_simp
theorem rph7 {Q : Exit → Act → World → Prop} {a0 a : Act} {w : World} (_er : gt a0 4 = (.slice (some ⟨g, 0, none⟩) 5 c)) (_ho : Off rpDs a0 a) (_hc : rpAt t0 t1 t2 t3 t4 g w)
   (hd : ∀ e ∈ (rp7).after, Region.binds .any e = true → e.on ≠ 16 → gt a (rpD e.on) = rpV t0 t1 t2 t3 t4 g c e.on) : wpOp Tryz.prog rps Q 7 (fun a' w' => a' = a.put (some (rpD 7)) (rpV t0 t1 t2 t3 t4 g c 7) ∧ w' = w) a w :=
 op_ok (i := 7) (o := rp7) rfl rfl (rpx7 a w (hd { on := 6, ground := Go.Ground.data } (by simp [rp7]) (by decide) (by decide))) ⟨rfl, rfl⟩
theorem rpx8 (a : Act) (W : World) (h0 : gt a 46 = .pointer (some ⟨g, 2, none⟩)) (cc : W.cell? ⟨g, 2, none⟩ = some (St t2)) : (execOp a.eval rp8).run Tryz.prog W = .ok (.value (St t2)) W := by
 have g0 := gt_eq h0
 clear h0
 simp only [execOp, rp8]
 go_simp
theorem rph8 {Q : Exit → Act → World → Prop} {a0 a : Act} {w : World} (_er : gt a0 4 = (.slice (some ⟨g, 0, none⟩) 5 c)) (_ho : Off rpDs a0 a) (hc : rpAt t0 t1 t2 t3 t4 g w)
   (hd : ∀ e ∈ (rp8).after, Region.binds .any e = true → e.on ≠ 16 → gt a (rpD e.on) = rpV t0 t1 t2 t3 t4 g c e.on) : wpOp Tryz.prog rps Q 8 (fun a' w' => a' = a.put (some (rpD 8)) (rpV t0 t1 t2 t3 t4 g c 8) ∧ w' = w) a w :=
 op_ok (i := 8) (o := rp8) rfl rfl (rpx8 a w (hd { on := 7, ground := Go.Ground.data } (by simp [rp8]) (by decide) (by decide)) hc.c2) ⟨rfl, rfl⟩
theorem rpx9 (a : Act) (W : World) (h0 : gt a 4 = (.slice (some ⟨g, 0, none⟩) 5 c)) : (execOp a.eval rp9).run Tryz.prog W = .ok (.value ((.slice (some ⟨g, 0, none⟩) 5 c))) W := by
 have g0 := gt_eq h0
 clear h0
 simp only [execOp, rp9]
 go_simp
theorem rph9 {Q : Exit → Act → World → Prop} {a0 a : Act} {w : World} (er : gt a0 4 = (.slice (some ⟨g, 0, none⟩) 5 c)) (ho : Off rpDs a0 a) (_hc : rpAt t0 t1 t2 t3 t4 g w)
   (_hd : ∀ e ∈ (rp9).after, Region.binds .any e = true → e.on ≠ 16 → gt a (rpD e.on) = rpV t0 t1 t2 t3 t4 g c e.on) : wpOp Tryz.prog rps Q 9 (fun a' w' => a' = a.put (some (rpD 9)) (rpV t0 t1 t2 t3 t4 g c 9) ∧ w' = w) a w :=
 op_ok (i := 9) (o := rp9) rfl rfl (rpx9 a w ((ho.slot (by decide)).trans er)) ⟨rfl, rfl⟩
theorem rpx10 (a : Act) (W : World) (h0 : gt a 48 = (.slice (some ⟨g, 0, none⟩) 5 c)) : (execOp a.eval rp10).run Tryz.prog W = .ok (.value (.pointer (some ⟨g, 3, none⟩))) W := by
 have g0 := gt_eq h0
 clear h0
 simp only [execOp, rp10]
 go_simp
theorem rph10 {Q : Exit → Act → World → Prop} {a0 a : Act} {w : World} (_er : gt a0 4 = (.slice (some ⟨g, 0, none⟩) 5 c)) (_ho : Off rpDs a0 a) (_hc : rpAt t0 t1 t2 t3 t4 g w)
   (hd : ∀ e ∈ (rp10).after, Region.binds .any e = true → e.on ≠ 16 → gt a (rpD e.on) = rpV t0 t1 t2 t3 t4 g c e.on) : wpOp Tryz.prog rps Q 10 (fun a' w' => a' = a.put (some (rpD 10)) (rpV t0 t1 t2 t3 t4 g c 10) ∧ w' = w) a w :=
 op_ok (i := 10) (o := rp10) rfl rfl (rpx10 a w (hd { on := 9, ground := Go.Ground.data } (by simp [rp10]) (by decide) (by decide))) ⟨rfl, rfl⟩
theorem rpx11 (a : Act) (W : World) (h0 : gt a 49 = .pointer (some ⟨g, 3, none⟩)) (cc : W.cell? ⟨g, 3, none⟩ = some (St t3)) : (execOp a.eval rp11).run Tryz.prog W = .ok (.value (St t3)) W := by
 have g0 := gt_eq h0
 clear h0
 simp only [execOp, rp11]
 go_simp
theorem rph11 {Q : Exit → Act → World → Prop} {a0 a : Act} {w : World} (_er : gt a0 4 = (.slice (some ⟨g, 0, none⟩) 5 c)) (_ho : Off rpDs a0 a) (hc : rpAt t0 t1 t2 t3 t4 g w)
   (hd : ∀ e ∈ (rp11).after, Region.binds .any e = true → e.on ≠ 16 → gt a (rpD e.on) = rpV t0 t1 t2 t3 t4 g c e.on) : wpOp Tryz.prog rps Q 11 (fun a' w' => a' = a.put (some (rpD 11)) (rpV t0 t1 t2 t3 t4 g c 11) ∧ w' = w) a w :=
 op_ok (i := 11) (o := rp11) rfl rfl (rpx11 a w (hd { on := 10, ground := Go.Ground.data } (by simp [rp11]) (by decide) (by decide)) hc.c3) ⟨rfl, rfl⟩
theorem rpx12 (a : Act) (W : World) (h0 : gt a 4 = (.slice (some ⟨g, 0, none⟩) 5 c)) : (execOp a.eval rp12).run Tryz.prog W = .ok (.value ((.slice (some ⟨g, 0, none⟩) 5 c))) W := by
 have g0 := gt_eq h0
 clear h0
 simp only [execOp, rp12]
 go_simp
theorem rph12 {Q : Exit → Act → World → Prop} {a0 a : Act} {w : World} (er : gt a0 4 = (.slice (some ⟨g, 0, none⟩) 5 c)) (ho : Off rpDs a0 a) (_hc : rpAt t0 t1 t2 t3 t4 g w)
   (_hd : ∀ e ∈ (rp12).after, Region.binds .any e = true → e.on ≠ 16 → gt a (rpD e.on) = rpV t0 t1 t2 t3 t4 g c e.on) : wpOp Tryz.prog rps Q 12 (fun a' w' => a' = a.put (some (rpD 12)) (rpV t0 t1 t2 t3 t4 g c 12) ∧ w' = w) a w :=
 op_ok (i := 12) (o := rp12) rfl rfl (rpx12 a w ((ho.slot (by decide)).trans er)) ⟨rfl, rfl⟩
theorem rpx13 (a : Act) (W : World) (h0 : gt a 51 = (.slice (some ⟨g, 0, none⟩) 5 c)) : (execOp a.eval rp13).run Tryz.prog W = .ok (.value (.pointer (some ⟨g, 4, none⟩))) W := by
 have g0 := gt_eq h0
 clear h0
 simp only [execOp, rp13]
 go_simp
theorem rph13 {Q : Exit → Act → World → Prop} {a0 a : Act} {w : World} (_er : gt a0 4 = (.slice (some ⟨g, 0, none⟩) 5 c)) (_ho : Off rpDs a0 a) (_hc : rpAt t0 t1 t2 t3 t4 g w)
   (hd : ∀ e ∈ (rp13).after, Region.binds .any e = true → e.on ≠ 16 → gt a (rpD e.on) = rpV t0 t1 t2 t3 t4 g c e.on) : wpOp Tryz.prog rps Q 13 (fun a' w' => a' = a.put (some (rpD 13)) (rpV t0 t1 t2 t3 t4 g c 13) ∧ w' = w) a w :=
 op_ok (i := 13) (o := rp13) rfl rfl (rpx13 a w (hd { on := 12, ground := Go.Ground.data } (by simp [rp13]) (by decide) (by decide))) ⟨rfl, rfl⟩
theorem rpx14 (a : Act) (W : World) (h0 : gt a 52 = .pointer (some ⟨g, 4, none⟩)) (cc : W.cell? ⟨g, 4, none⟩ = some (St t4)) : (execOp a.eval rp14).run Tryz.prog W = .ok (.value (St t4)) W := by
 have g0 := gt_eq h0
 clear h0
 simp only [execOp, rp14]
 go_simp
theorem rph14 {Q : Exit → Act → World → Prop} {a0 a : Act} {w : World} (_er : gt a0 4 = (.slice (some ⟨g, 0, none⟩) 5 c)) (_ho : Off rpDs a0 a) (hc : rpAt t0 t1 t2 t3 t4 g w)
   (hd : ∀ e ∈ (rp14).after, Region.binds .any e = true → e.on ≠ 16 → gt a (rpD e.on) = rpV t0 t1 t2 t3 t4 g c e.on) : wpOp Tryz.prog rps Q 14 (fun a' w' => a' = a.put (some (rpD 14)) (rpV t0 t1 t2 t3 t4 g c 14) ∧ w' = w) a w :=
 op_ok (i := 14) (o := rp14) rfl rfl (rpx14 a w (hd { on := 13, ground := Go.Ground.data } (by simp [rp14]) (by decide) (by decide)) hc.c4) ⟨rfl, rfl⟩
theorem rpx15 (a : Act) (W : World) (h0 : gt a 41 = St t0) (h1 : gt a 44 = St t1) (h2 : gt a 47 = St t2) (h3 : gt a 50 = St t3) (h4 : gt a 53 = St t4) : (execOp a.eval rp15).run Tryz.prog W = .ok (.value (.agg #[St t0, St t1, St t2, St t3, St t4])) W := by
 have g0 := gt_eq h0
 have g1 := gt_eq h1
 have g2 := gt_eq h2
 have g3 := gt_eq h3
 have g4 := gt_eq h4
 clear h0 h1 h2 h3 h4
 simp only [execOp, rp15]
 go_simp
theorem rph15 {Q : Exit → Act → World → Prop} {a0 a : Act} {w : World} (_er : gt a0 4 = (.slice (some ⟨g, 0, none⟩) 5 c)) (_ho : Off rpDs a0 a) (_hc : rpAt t0 t1 t2 t3 t4 g w)
   (hd : ∀ e ∈ (rp15).after, Region.binds .any e = true → e.on ≠ 16 → gt a (rpD e.on) = rpV t0 t1 t2 t3 t4 g c e.on) : wpOp Tryz.prog rps Q 15 (fun a' w' => a' = a.put (some (rpD 15)) (rpV t0 t1 t2 t3 t4 g c 15) ∧ w' = w) a w :=
 op_ok (i := 15) (o := rp15) rfl rfl (rpx15 a w (hd { on := 2, ground := Go.Ground.data } (by simp [rp15]) (by decide) (by decide)) (hd { on := 5, ground := Go.Ground.data } (by simp [rp15]) (by decide) (by decide)) (hd { on := 8, ground := Go.Ground.data } (by simp [rp15]) (by decide) (by decide)) (hd { on := 11, ground := Go.Ground.data } (by simp [rp15]) (by decide) (by decide)) (hd { on := 14, ground := Go.Ground.data } (by simp [rp15]) (by decide) (by decide))) ⟨rfl, rfl⟩
theorem rpx17 (a : Act) (W : World)  : (execOp a.eval rp17).run Tryz.prog W = .ok (.value (.int .i64 0)) W := by
 simp only [execOp, rp17]
 go_simp
theorem rph17 {Q : Exit → Act → World → Prop} {a0 a : Act} {w : World} (_er : gt a0 4 = (.slice (some ⟨g, 0, none⟩) 5 c)) (_ho : Off rpDs a0 a) (_hc : rpAt t0 t1 t2 t3 t4 g w)
   (_hd : ∀ e ∈ (rp17).after, Region.binds .any e = true → e.on ≠ 16 → gt a (rpD e.on) = rpV t0 t1 t2 t3 t4 g c e.on) : wpOp Tryz.prog rps Q 17 (fun a' w' => a' = a.put (some (rpD 17)) (rpV t0 t1 t2 t3 t4 g c 17) ∧ w' = w) a w :=
 op_ok (i := 17) (o := rp17) rfl rfl (rpx17 a w ) ⟨rfl, rfl⟩
theorem rpxz (a : Act) (W : World) (rb : Nat) (hg : W.heap[rb]? = some (.cells #[St [], St [], St [], St [], St []] 33 (0, 0))) (h0 : gt a 2 = .pointer (some ⟨rb, 0, none⟩)) (h1 : gt a 54 = .agg #[St t0, St t1, St t2, St t3, St t4]) :
   (execOp a.eval rp16).run Tryz.prog W = .ok .skip (((((W.setCell ⟨rb, 0, none⟩ (St t0)).setCell ⟨rb, 1, none⟩ (St t1)).setCell ⟨rb, 2, none⟩ (St t2)).setCell ⟨rb, 3, none⟩ (St t3)).setCell ⟨rb, 4, none⟩ (St t4)) := by
 have g0 := gt_eq h0
 have g1 := gt_eq h1
 have c : ∀ o, W.cell? ⟨rb, o, none⟩ = (#[St [], St [], St [], St [], St []] : Array Value)[o]? := fun o => cell_of_heap hg o
 have f : ∀ o, W.frozen? ⟨rb, o, none⟩ = false := fun o => frozen_of_heap hg o
 have c0 : W.cell? ⟨rb, 0, none⟩ = some (St []) := c 0
 have c1 : W.cell? ⟨rb, 1, none⟩ = some (St []) := c 1
 have c2 : W.cell? ⟨rb, 2, none⟩ = some (St []) := c 2
 have c3 : W.cell? ⟨rb, 3, none⟩ = some (St []) := c 3
 have c4 : W.cell? ⟨rb, 4, none⟩ = some (St []) := c 4
 clear h0 h1 c hg
 simp only [execOp, rp16]
 go_simp
end
section
variable {t0 t1 t2 t3 t4 : Bs} {g c : Nat}
set_option maxRecDepth 10000 in
theorem rpreg {Q : Exit → Act → World → Prop} {a0 : Act} {w1 : World} {rb : Nat} (er : gt a0 4 = (.slice (some ⟨g, 0, none⟩) 5 c)) (eb : gt a0 2 = .pointer (some ⟨rb, 0, none⟩)) (hz : 55 ≤ a0.tmps.size) (hne : g ≠ rb) (hc : rpAt t0 t1 t2 t3 t4 g w1) (hg : w1.heap[rb]? = some (.cells #[St [], St [], St [], St [], St []] 33 (0, 0)))
   (hd : ∀ (a : Act), Off rpDs a0 a → (∀ i, i < 18 → i ≠ 16 → gt a (rpD i) = rpV t0 t1 t2 t3 t4 g c i) → Q .normal a (((((w1.drew.setCell ⟨rb, 0, none⟩ (St t0)).setCell ⟨rb, 1, none⟩ (St t1)).setCell ⟨rb, 2, none⟩ (St t2)).setCell ⟨rb, 3, none⟩ (St t3)).setCell ⟨rb, 4, none⟩ (St t4))) : (Code.region 10 rps true).wp Tryz.prog Q a0 w1 := by
 have hc1 : rpAt t0 t1 t2 t3 t4 g w1.drew := ⟨hc.c0, hc.c1, hc.c2, hc.c3, hc.c4⟩
 have hoff : ∀ (W : World) (k o : Nat) (v : Value), (W.setCell ⟨rb, k, none⟩ v).cell? ⟨g, o, none⟩ = W.cell? ⟨g, o, none⟩ := fun W k o v => World.cell?_of_block (Below.heap_setCell _ _ _ _ (by show g ≠ rb; exact hne))
 have hc2 : rpAt t0 t1 t2 t3 t4 g (((((w1.drew.setCell ⟨rb, 0, none⟩ (St t0)).setCell ⟨rb, 1, none⟩ (St t1)).setCell ⟨rb, 2, none⟩ (St t2)).setCell ⟨rb, 3, none⟩ (St t3)).setCell ⟨rb, 4, none⟩ (St t4)) := ⟨by rw [hoff, hoff, hoff, hoff, hoff]; exact hc1.c0, by rw [hoff, hoff, hoff, hoff, hoff]; exact hc1.c1, by rw [hoff, hoff, hoff, hoff, hoff]; exact hc1.c2, by rw [hoff, hoff, hoff, hoff, hoff]; exact hc1.c3, by rw [hoff, hoff, hoff, hoff, hoff]; exact hc1.c4⟩
 refine region_put rpDs rpD (rpV t0 t1 t2 t3 t4 g c) 16 _ rfl rps_back (fun i hi hn => ⟨(rpD_mem ⟨i, hi⟩ hn).1, Nat.lt_of_lt_of_le (rpD_mem ⟨i, hi⟩ hn).2 hz⟩) (fun i j hi hj h1 h2 h => rpD_inj ⟨i, hi⟩ ⟨j, hj⟩ h1 h2 (fun e => h (congrArg Fin.val e))) ?_ ?_ hd
 · intro i o a w h hi hw ho hd
   have hc : rpAt t0 t1 t2 t3 t4 g w := by rcases hw with rfl | rfl; exact hc1; exact hc2
   match i, h, hi with
   | 0, h, hi => (cases h; exact rph0 er ho hc hd)
   | 1, h, hi => (cases h; exact rph1 er ho hc hd)
   | 2, h, hi => (cases h; exact rph2 er ho hc hd)
   | 3, h, hi => (cases h; exact rph3 er ho hc hd)
   | 4, h, hi => (cases h; exact rph4 er ho hc hd)
   | 5, h, hi => (cases h; exact rph5 er ho hc hd)
   | 6, h, hi => (cases h; exact rph6 er ho hc hd)
   | 7, h, hi => (cases h; exact rph7 er ho hc hd)
   | 8, h, hi => (cases h; exact rph8 er ho hc hd)
   | 9, h, hi => (cases h; exact rph9 er ho hc hd)
   | 10, h, hi => (cases h; exact rph10 er ho hc hd)
   | 11, h, hi => (cases h; exact rph11 er ho hc hd)
   | 12, h, hi => (cases h; exact rph12 er ho hc hd)
   | 13, h, hi => (cases h; exact rph13 er ho hc hd)
   | 14, h, hi => (cases h; exact rph14 er ho hc hd)
   | 15, h, hi => (cases h; exact rph15 er ho hc hd)
   | 16, h, hi => exact absurd rfl hi
   | 17, h, hi => (cases h; exact rph17 er ho hc hd)
   | k + 18, h, hi => simp [rps] at h
 · intro o a h ho hd
   cases h
   exact op_skip (i := 16) (o := rp16) rfl rfl (rpxz a w1.drew rb hg ((ho.slot (by decide)).trans eb) (hd { on := 15, ground := Go.Ground.data } (show _ ∈ (rp16).after by simp [rp16]) (by decide) (by decide))) ⟨rfl, rfl⟩
end
end Go.Proofs.YtkifchjpgdmcoaaGreatDoor

/- Keys: a region that reads a row of terms and stores them, whatever order is drawn. -/
namespace Go.Proofs.YtkifchjpgdmcoaaGreatDoor
open Go.RowKit
def rc0 : Oper := { dst := some 47, op := Op.move (Operand.tmp 8), type := 39, pos := "ref.go:47", after := #[], guard := none }
def rc1 : Oper := { dst := some 48, op := Op.indexAddr 39 (Operand.tmp 47) (Operand.const (Value.int IntKind.i64 0)), type := 0, pos := "ref.go:47", after := #[{ on := 0, ground := Go.Ground.data }], guard := none }
def rc2 : Oper := { dst := some 49, op := Op.load 22 (Operand.tmp 48), type := 22, pos := "ref.go:47", after := #[{ on := 1, ground := Go.Ground.data }], guard := none }
def rc3 : Oper := { dst := some 50, op := Op.move (Operand.tmp 8), type := 39, pos := "ref.go:47", after := #[], guard := none }
def rc4 : Oper := { dst := some 51, op := Op.indexAddr 39 (Operand.tmp 50) (Operand.const (Value.int IntKind.i64 1)), type := 0, pos := "ref.go:47", after := #[{ on := 3, ground := Go.Ground.data }], guard := none }
def rc5 : Oper := { dst := some 52, op := Op.load 22 (Operand.tmp 51), type := 22, pos := "ref.go:47", after := #[{ on := 4, ground := Go.Ground.data }], guard := none }
def rc6 : Oper := { dst := some 53, op := Op.move (Operand.tmp 8), type := 39, pos := "ref.go:47", after := #[], guard := none }
def rc7 : Oper := { dst := some 54, op := Op.indexAddr 39 (Operand.tmp 53) (Operand.const (Value.int IntKind.i64 2)), type := 0, pos := "ref.go:47", after := #[{ on := 6, ground := Go.Ground.data }], guard := none }
def rc8 : Oper := { dst := some 55, op := Op.load 22 (Operand.tmp 54), type := 22, pos := "ref.go:47", after := #[{ on := 7, ground := Go.Ground.data }], guard := none }
def rc9 : Oper := { dst := some 56, op := Op.move (Operand.tmp 8), type := 39, pos := "ref.go:47", after := #[], guard := none }
def rc10 : Oper := { dst := some 57, op := Op.indexAddr 39 (Operand.tmp 56) (Operand.const (Value.int IntKind.i64 3)), type := 0, pos := "ref.go:47", after := #[{ on := 9, ground := Go.Ground.data }], guard := none }
def rc11 : Oper := { dst := some 58, op := Op.load 22 (Operand.tmp 57), type := 22, pos := "ref.go:47", after := #[{ on := 10, ground := Go.Ground.data }], guard := none }
def rc12 : Oper := { dst := some 59, op := Op.move (Operand.tmp 8), type := 39, pos := "ref.go:47", after := #[], guard := none }
def rc13 : Oper := { dst := some 60, op := Op.indexAddr 39 (Operand.tmp 59) (Operand.const (Value.int IntKind.i64 4)), type := 0, pos := "ref.go:47", after := #[{ on := 12, ground := Go.Ground.data }], guard := none }
def rc14 : Oper := { dst := some 61, op := Op.load 22 (Operand.tmp 60), type := 22, pos := "ref.go:47", after := #[{ on := 13, ground := Go.Ground.data }], guard := none }
def rc15 : Oper := { dst := some 62, op := Op.move (Operand.tmp 8), type := 39, pos := "ref.go:47", after := #[], guard := none }
def rc16 : Oper := { dst := some 63, op := Op.indexAddr 39 (Operand.tmp 62) (Operand.const (Value.int IntKind.i64 5)), type := 0, pos := "ref.go:47", after := #[{ on := 15, ground := Go.Ground.data }], guard := none }
def rc17 : Oper := { dst := some 64, op := Op.load 22 (Operand.tmp 63), type := 22, pos := "ref.go:47", after := #[{ on := 16, ground := Go.Ground.data }], guard := none }
def rc18 : Oper := { dst := some 65, op := Op.build 24 #[(0, Operand.tmp 49), (1, Operand.tmp 52), (2, Operand.tmp 55), (3, Operand.tmp 58), (4, Operand.tmp 61), (5, Operand.tmp 64)], type := 24, pos := "ref.go:47", after := #[{ on := 2, ground := Go.Ground.data }, { on := 5, ground := Go.Ground.data }, { on := 8, ground := Go.Ground.data }, { on := 11, ground := Go.Ground.data }, { on := 14, ground := Go.Ground.data }, { on := 17, ground := Go.Ground.data }], guard := none }
def rc19 : Oper := { dst := none, op := Op.store 24 (Operand.tmp 4) (Operand.tmp 65), type := 0, pos := "ref.go:47", after := #[{ on := 18, ground := Go.Ground.data }, { on := 0, ground := Go.Ground.phase }, { on := 1, ground := Go.Ground.phase }, { on := 2, ground := Go.Ground.phase }, { on := 3, ground := Go.Ground.phase }, { on := 4, ground := Go.Ground.phase }, { on := 5, ground := Go.Ground.phase }, { on := 6, ground := Go.Ground.phase }, { on := 7, ground := Go.Ground.phase }, { on := 8, ground := Go.Ground.phase }, { on := 9, ground := Go.Ground.phase }, { on := 10, ground := Go.Ground.phase }, { on := 11, ground := Go.Ground.phase }, { on := 12, ground := Go.Ground.phase }, { on := 13, ground := Go.Ground.phase }, { on := 14, ground := Go.Ground.phase }, { on := 15, ground := Go.Ground.phase }, { on := 16, ground := Go.Ground.phase }, { on := 17, ground := Go.Ground.phase }, { on := 18, ground := Go.Ground.phase }], guard := none }
def rc20 : Oper := { dst := some 5, op := Op.assign (Operand.const (Value.int IntKind.i64 0)), type := 29, pos := "ref.go:47", after := #[{ on := 19, ground := Go.Ground.chain }, { on := 0, ground := Go.Ground.phase }, { on := 1, ground := Go.Ground.phase }, { on := 2, ground := Go.Ground.phase }, { on := 3, ground := Go.Ground.phase }, { on := 4, ground := Go.Ground.phase }, { on := 5, ground := Go.Ground.phase }, { on := 6, ground := Go.Ground.phase }, { on := 7, ground := Go.Ground.phase }, { on := 8, ground := Go.Ground.phase }, { on := 9, ground := Go.Ground.phase }, { on := 10, ground := Go.Ground.phase }, { on := 11, ground := Go.Ground.phase }, { on := 12, ground := Go.Ground.phase }, { on := 13, ground := Go.Ground.phase }, { on := 14, ground := Go.Ground.phase }, { on := 15, ground := Go.Ground.phase }, { on := 16, ground := Go.Ground.phase }, { on := 17, ground := Go.Ground.phase }, { on := 18, ground := Go.Ground.phase }, { on := 19, ground := Go.Ground.phase }], guard := none }
def rcs : Array Oper := #[rc0, rc1, rc2, rc3, rc4, rc5, rc6, rc7, rc8, rc9, rc10, rc11, rc12, rc13, rc14, rc15, rc16, rc17, rc18, rc19, rc20]
theorem rcs_size : rcs.size = 21 := rfl
set_option maxRecDepth 10000 in
theorem rcs_back (i : Nat) (o : Oper) (h : rcs[i]? = some o) : ∀ e ∈ o.after, e.on < i := by
 have hall : ∀ j : Fin 21, ∀ e ∈ (rcs[j.1]'(by have := j.2; have := rcs_size; omega)).after, e.on < j.1 := by decide +kernel
 obtain ⟨hi, rfl⟩ := Array.getElem?_eq_some_iff.1 h
 exact hall ⟨i, by have := rcs_size; omega⟩
def rcD : Nat → Nat
 | 0 => 47
 | 1 => 48
 | 2 => 49
 | 3 => 50
 | 4 => 51
 | 5 => 52
 | 6 => 53
 | 7 => 54
 | 8 => 55
 | 9 => 56
 | 10 => 57
 | 11 => 58
 | 12 => 59
 | 13 => 60
 | 14 => 61
 | 15 => 62
 | 16 => 63
 | 17 => 64
 | 18 => 65
 | 20 => 5
 | _ => 0
def rcDs : List Nat := ((List.range 21).filter (· ≠ 19)).map rcD
set_option maxRecDepth 10000 in
theorem rcD_mem : ∀ i : Fin 21, i.1 ≠ 19 → rcD i.1 ∈ rcDs ∧ rcD i.1 < 66 := by decide +kernel
set_option maxRecDepth 10000 in
theorem rcD_inj : ∀ i j : Fin 21, i.1 ≠ 19 → j.1 ≠ 19 → i ≠ j → rcD i.1 ≠ rcD j.1 := by decide +kernel
def rcV (t0 : Bs) (t1 : Bs) (t2 : Bs) (t3 : Bs) (t4 : Bs) (t5 : Bs) (g : Nat) (c : Nat) : Nat → Value
 | 0 => (.slice (some ⟨g, 0, none⟩) 6 c)
 | 1 => .pointer (some ⟨g, 0, none⟩)
 | 2 => St t0
 | 3 => (.slice (some ⟨g, 0, none⟩) 6 c)
 | 4 => .pointer (some ⟨g, 1, none⟩)
 | 5 => St t1
 | 6 => (.slice (some ⟨g, 0, none⟩) 6 c)
 | 7 => .pointer (some ⟨g, 2, none⟩)
 | 8 => St t2
 | 9 => (.slice (some ⟨g, 0, none⟩) 6 c)
 | 10 => .pointer (some ⟨g, 3, none⟩)
 | 11 => St t3
 | 12 => (.slice (some ⟨g, 0, none⟩) 6 c)
 | 13 => .pointer (some ⟨g, 4, none⟩)
 | 14 => St t4
 | 15 => (.slice (some ⟨g, 0, none⟩) 6 c)
 | 16 => .pointer (some ⟨g, 5, none⟩)
 | 17 => St t5
 | 18 => .agg #[St t0, St t1, St t2, St t3, St t4, St t5]
 | 20 => .int .i64 0
 | _ => undef
structure rcAt (t0 t1 t2 t3 t4 t5 : Bs) (g : Nat) (W : World) : Prop where
 c0 : W.cell? ⟨g, 0, none⟩ = some (St t0)
 c1 : W.cell? ⟨g, 1, none⟩ = some (St t1)
 c2 : W.cell? ⟨g, 2, none⟩ = some (St t2)
 c3 : W.cell? ⟨g, 3, none⟩ = some (St t3)
 c4 : W.cell? ⟨g, 4, none⟩ = some (St t4)
 c5 : W.cell? ⟨g, 5, none⟩ = some (St t5)
section
variable {t0 t1 t2 t3 t4 t5 : Bs} {g c : Nat}
theorem rcx0 (a : Act) (W : World) (h0 : gt a 8 = (.slice (some ⟨g, 0, none⟩) 6 c)) : (execOp a.eval rc0).run Tryz.prog W = .ok (.value ((.slice (some ⟨g, 0, none⟩) 6 c))) W := by
 have g0 := gt_eq h0
 clear h0
 simp only [execOp, rc0]
 go_simp
theorem rch0 {Q : Exit → Act → World → Prop} {a0 a : Act} {w : World} (er : gt a0 8 = (.slice (some ⟨g, 0, none⟩) 6 c)) (ho : Off rcDs a0 a) (_hc : rcAt t0 t1 t2 t3 t4 t5 g w)
   (_hd : ∀ e ∈ (rc0).after, Region.binds .any e = true → e.on ≠ 19 → gt a (rcD e.on) = rcV t0 t1 t2 t3 t4 t5 g c e.on) : wpOp Tryz.prog rcs Q 0 (fun a' w' => a' = a.put (some (rcD 0)) (rcV t0 t1 t2 t3 t4 t5 g c 0) ∧ w' = w) a w :=
 op_ok (i := 0) (o := rc0) rfl rfl (rcx0 a w ((ho.slot (by decide)).trans er)) ⟨rfl, rfl⟩
theorem rcx1 (a : Act) (W : World) (h0 : gt a 47 = (.slice (some ⟨g, 0, none⟩) 6 c)) : (execOp a.eval rc1).run Tryz.prog W = .ok (.value (.pointer (some ⟨g, 0, none⟩))) W := by
 have g0 := gt_eq h0
 clear h0
 simp only [execOp, rc1]
 go_simp
theorem rch1 {Q : Exit → Act → World → Prop} {a0 a : Act} {w : World} (_er : gt a0 8 = (.slice (some ⟨g, 0, none⟩) 6 c)) (_ho : Off rcDs a0 a) (_hc : rcAt t0 t1 t2 t3 t4 t5 g w)
   (hd : ∀ e ∈ (rc1).after, Region.binds .any e = true → e.on ≠ 19 → gt a (rcD e.on) = rcV t0 t1 t2 t3 t4 t5 g c e.on) : wpOp Tryz.prog rcs Q 1 (fun a' w' => a' = a.put (some (rcD 1)) (rcV t0 t1 t2 t3 t4 t5 g c 1) ∧ w' = w) a w :=
 op_ok (i := 1) (o := rc1) rfl rfl (rcx1 a w (hd { on := 0, ground := Go.Ground.data } (by simp [rc1]) (by decide) (by decide))) ⟨rfl, rfl⟩
theorem rcx2 (a : Act) (W : World) (h0 : gt a 48 = .pointer (some ⟨g, 0, none⟩)) (cc : W.cell? ⟨g, 0, none⟩ = some (St t0)) : (execOp a.eval rc2).run Tryz.prog W = .ok (.value (St t0)) W := by
 have g0 := gt_eq h0
 clear h0
 simp only [execOp, rc2]
 go_simp
theorem rch2 {Q : Exit → Act → World → Prop} {a0 a : Act} {w : World} (_er : gt a0 8 = (.slice (some ⟨g, 0, none⟩) 6 c)) (_ho : Off rcDs a0 a) (hc : rcAt t0 t1 t2 t3 t4 t5 g w)
   (hd : ∀ e ∈ (rc2).after, Region.binds .any e = true → e.on ≠ 19 → gt a (rcD e.on) = rcV t0 t1 t2 t3 t4 t5 g c e.on) : wpOp Tryz.prog rcs Q 2 (fun a' w' => a' = a.put (some (rcD 2)) (rcV t0 t1 t2 t3 t4 t5 g c 2) ∧ w' = w) a w :=
 op_ok (i := 2) (o := rc2) rfl rfl (rcx2 a w (hd { on := 1, ground := Go.Ground.data } (by simp [rc2]) (by decide) (by decide)) hc.c0) ⟨rfl, rfl⟩
theorem rcx3 (a : Act) (W : World) (h0 : gt a 8 = (.slice (some ⟨g, 0, none⟩) 6 c)) : (execOp a.eval rc3).run Tryz.prog W = .ok (.value ((.slice (some ⟨g, 0, none⟩) 6 c))) W := by
 have g0 := gt_eq h0
 clear h0
 simp only [execOp, rc3]
 go_simp
theorem rch3 {Q : Exit → Act → World → Prop} {a0 a : Act} {w : World} (er : gt a0 8 = (.slice (some ⟨g, 0, none⟩) 6 c)) (ho : Off rcDs a0 a) (_hc : rcAt t0 t1 t2 t3 t4 t5 g w)
   (_hd : ∀ e ∈ (rc3).after, Region.binds .any e = true → e.on ≠ 19 → gt a (rcD e.on) = rcV t0 t1 t2 t3 t4 t5 g c e.on) : wpOp Tryz.prog rcs Q 3 (fun a' w' => a' = a.put (some (rcD 3)) (rcV t0 t1 t2 t3 t4 t5 g c 3) ∧ w' = w) a w :=
 op_ok (i := 3) (o := rc3) rfl rfl (rcx3 a w ((ho.slot (by decide)).trans er)) ⟨rfl, rfl⟩
theorem rcx4 (a : Act) (W : World) (h0 : gt a 50 = (.slice (some ⟨g, 0, none⟩) 6 c)) : (execOp a.eval rc4).run Tryz.prog W = .ok (.value (.pointer (some ⟨g, 1, none⟩))) W := by
 have g0 := gt_eq h0
 clear h0
 simp only [execOp, rc4]
 go_simp
theorem rch4 {Q : Exit → Act → World → Prop} {a0 a : Act} {w : World} (_er : gt a0 8 = (.slice (some ⟨g, 0, none⟩) 6 c)) (_ho : Off rcDs a0 a) (_hc : rcAt t0 t1 t2 t3 t4 t5 g w)
   (hd : ∀ e ∈ (rc4).after, Region.binds .any e = true → e.on ≠ 19 → gt a (rcD e.on) = rcV t0 t1 t2 t3 t4 t5 g c e.on) : wpOp Tryz.prog rcs Q 4 (fun a' w' => a' = a.put (some (rcD 4)) (rcV t0 t1 t2 t3 t4 t5 g c 4) ∧ w' = w) a w :=
 op_ok (i := 4) (o := rc4) rfl rfl (rcx4 a w (hd { on := 3, ground := Go.Ground.data } (by simp [rc4]) (by decide) (by decide))) ⟨rfl, rfl⟩
theorem rcx5 (a : Act) (W : World) (h0 : gt a 51 = .pointer (some ⟨g, 1, none⟩)) (cc : W.cell? ⟨g, 1, none⟩ = some (St t1)) : (execOp a.eval rc5).run Tryz.prog W = .ok (.value (St t1)) W := by
 have g0 := gt_eq h0
 clear h0
 simp only [execOp, rc5]
 go_simp
theorem rch5 {Q : Exit → Act → World → Prop} {a0 a : Act} {w : World} (_er : gt a0 8 = (.slice (some ⟨g, 0, none⟩) 6 c)) (_ho : Off rcDs a0 a) (hc : rcAt t0 t1 t2 t3 t4 t5 g w)
   (hd : ∀ e ∈ (rc5).after, Region.binds .any e = true → e.on ≠ 19 → gt a (rcD e.on) = rcV t0 t1 t2 t3 t4 t5 g c e.on) : wpOp Tryz.prog rcs Q 5 (fun a' w' => a' = a.put (some (rcD 5)) (rcV t0 t1 t2 t3 t4 t5 g c 5) ∧ w' = w) a w :=
 op_ok (i := 5) (o := rc5) rfl rfl (rcx5 a w (hd { on := 4, ground := Go.Ground.data } (by simp [rc5]) (by decide) (by decide)) hc.c1) ⟨rfl, rfl⟩
theorem rcx6 (a : Act) (W : World) (h0 : gt a 8 = (.slice (some ⟨g, 0, none⟩) 6 c)) : (execOp a.eval rc6).run Tryz.prog W = .ok (.value ((.slice (some ⟨g, 0, none⟩) 6 c))) W := by
 have g0 := gt_eq h0
 clear h0
 simp only [execOp, rc6]
 go_simp
theorem rch6 {Q : Exit → Act → World → Prop} {a0 a : Act} {w : World} (er : gt a0 8 = (.slice (some ⟨g, 0, none⟩) 6 c)) (ho : Off rcDs a0 a) (_hc : rcAt t0 t1 t2 t3 t4 t5 g w)
   (_hd : ∀ e ∈ (rc6).after, Region.binds .any e = true → e.on ≠ 19 → gt a (rcD e.on) = rcV t0 t1 t2 t3 t4 t5 g c e.on) : wpOp Tryz.prog rcs Q 6 (fun a' w' => a' = a.put (some (rcD 6)) (rcV t0 t1 t2 t3 t4 t5 g c 6) ∧ w' = w) a w :=
 op_ok (i := 6) (o := rc6) rfl rfl (rcx6 a w ((ho.slot (by decide)).trans er)) ⟨rfl, rfl⟩
theorem rcx7 (a : Act) (W : World) (h0 : gt a 53 = (.slice (some ⟨g, 0, none⟩) 6 c)) : (execOp a.eval rc7).run Tryz.prog W = .ok (.value (.pointer (some ⟨g, 2, none⟩))) W := by
 have g0 := gt_eq h0
 clear h0
 simp only [execOp, rc7]
 go_simp
theorem rch7 {Q : Exit → Act → World → Prop} {a0 a : Act} {w : World} (_er : gt a0 8 = (.slice (some ⟨g, 0, none⟩) 6 c)) (_ho : Off rcDs a0 a) (_hc : rcAt t0 t1 t2 t3 t4 t5 g w)
   (hd : ∀ e ∈ (rc7).after, Region.binds .any e = true → e.on ≠ 19 → gt a (rcD e.on) = rcV t0 t1 t2 t3 t4 t5 g c e.on) : wpOp Tryz.prog rcs Q 7 (fun a' w' => a' = a.put (some (rcD 7)) (rcV t0 t1 t2 t3 t4 t5 g c 7) ∧ w' = w) a w :=
 op_ok (i := 7) (o := rc7) rfl rfl (rcx7 a w (hd { on := 6, ground := Go.Ground.data } (by simp [rc7]) (by decide) (by decide))) ⟨rfl, rfl⟩
theorem rcx8 (a : Act) (W : World) (h0 : gt a 54 = .pointer (some ⟨g, 2, none⟩)) (cc : W.cell? ⟨g, 2, none⟩ = some (St t2)) : (execOp a.eval rc8).run Tryz.prog W = .ok (.value (St t2)) W := by
 have g0 := gt_eq h0
 clear h0
 simp only [execOp, rc8]
 go_simp
theorem rch8 {Q : Exit → Act → World → Prop} {a0 a : Act} {w : World} (_er : gt a0 8 = (.slice (some ⟨g, 0, none⟩) 6 c)) (_ho : Off rcDs a0 a) (hc : rcAt t0 t1 t2 t3 t4 t5 g w)
   (hd : ∀ e ∈ (rc8).after, Region.binds .any e = true → e.on ≠ 19 → gt a (rcD e.on) = rcV t0 t1 t2 t3 t4 t5 g c e.on) : wpOp Tryz.prog rcs Q 8 (fun a' w' => a' = a.put (some (rcD 8)) (rcV t0 t1 t2 t3 t4 t5 g c 8) ∧ w' = w) a w :=
 op_ok (i := 8) (o := rc8) rfl rfl (rcx8 a w (hd { on := 7, ground := Go.Ground.data } (by simp [rc8]) (by decide) (by decide)) hc.c2) ⟨rfl, rfl⟩
theorem rcx9 (a : Act) (W : World) (h0 : gt a 8 = (.slice (some ⟨g, 0, none⟩) 6 c)) : (execOp a.eval rc9).run Tryz.prog W = .ok (.value ((.slice (some ⟨g, 0, none⟩) 6 c))) W := by
 have g0 := gt_eq h0
 clear h0
 simp only [execOp, rc9]
 go_simp
theorem rch9 {Q : Exit → Act → World → Prop} {a0 a : Act} {w : World} (er : gt a0 8 = (.slice (some ⟨g, 0, none⟩) 6 c)) (ho : Off rcDs a0 a) (_hc : rcAt t0 t1 t2 t3 t4 t5 g w)
   (_hd : ∀ e ∈ (rc9).after, Region.binds .any e = true → e.on ≠ 19 → gt a (rcD e.on) = rcV t0 t1 t2 t3 t4 t5 g c e.on) : wpOp Tryz.prog rcs Q 9 (fun a' w' => a' = a.put (some (rcD 9)) (rcV t0 t1 t2 t3 t4 t5 g c 9) ∧ w' = w) a w :=
 op_ok (i := 9) (o := rc9) rfl rfl (rcx9 a w ((ho.slot (by decide)).trans er)) ⟨rfl, rfl⟩
theorem rcx10 (a : Act) (W : World) (h0 : gt a 56 = (.slice (some ⟨g, 0, none⟩) 6 c)) : (execOp a.eval rc10).run Tryz.prog W = .ok (.value (.pointer (some ⟨g, 3, none⟩))) W := by
 have g0 := gt_eq h0
 clear h0
 simp only [execOp, rc10]
 go_simp
theorem rch10 {Q : Exit → Act → World → Prop} {a0 a : Act} {w : World} (_er : gt a0 8 = (.slice (some ⟨g, 0, none⟩) 6 c)) (_ho : Off rcDs a0 a) (_hc : rcAt t0 t1 t2 t3 t4 t5 g w)
   (hd : ∀ e ∈ (rc10).after, Region.binds .any e = true → e.on ≠ 19 → gt a (rcD e.on) = rcV t0 t1 t2 t3 t4 t5 g c e.on) : wpOp Tryz.prog rcs Q 10 (fun a' w' => a' = a.put (some (rcD 10)) (rcV t0 t1 t2 t3 t4 t5 g c 10) ∧ w' = w) a w :=
 op_ok (i := 10) (o := rc10) rfl rfl (rcx10 a w (hd { on := 9, ground := Go.Ground.data } (by simp [rc10]) (by decide) (by decide))) ⟨rfl, rfl⟩
theorem rcx11 (a : Act) (W : World) (h0 : gt a 57 = .pointer (some ⟨g, 3, none⟩)) (cc : W.cell? ⟨g, 3, none⟩ = some (St t3)) : (execOp a.eval rc11).run Tryz.prog W = .ok (.value (St t3)) W := by
 have g0 := gt_eq h0
 clear h0
 simp only [execOp, rc11]
 go_simp
theorem rch11 {Q : Exit → Act → World → Prop} {a0 a : Act} {w : World} (_er : gt a0 8 = (.slice (some ⟨g, 0, none⟩) 6 c)) (_ho : Off rcDs a0 a) (hc : rcAt t0 t1 t2 t3 t4 t5 g w)
   (hd : ∀ e ∈ (rc11).after, Region.binds .any e = true → e.on ≠ 19 → gt a (rcD e.on) = rcV t0 t1 t2 t3 t4 t5 g c e.on) : wpOp Tryz.prog rcs Q 11 (fun a' w' => a' = a.put (some (rcD 11)) (rcV t0 t1 t2 t3 t4 t5 g c 11) ∧ w' = w) a w :=
 op_ok (i := 11) (o := rc11) rfl rfl (rcx11 a w (hd { on := 10, ground := Go.Ground.data } (by simp [rc11]) (by decide) (by decide)) hc.c3) ⟨rfl, rfl⟩
theorem rcx12 (a : Act) (W : World) (h0 : gt a 8 = (.slice (some ⟨g, 0, none⟩) 6 c)) : (execOp a.eval rc12).run Tryz.prog W = .ok (.value ((.slice (some ⟨g, 0, none⟩) 6 c))) W := by
 have g0 := gt_eq h0
 clear h0
 simp only [execOp, rc12]
 go_simp
theorem rch12 {Q : Exit → Act → World → Prop} {a0 a : Act} {w : World} (er : gt a0 8 = (.slice (some ⟨g, 0, none⟩) 6 c)) (ho : Off rcDs a0 a) (_hc : rcAt t0 t1 t2 t3 t4 t5 g w)
   (_hd : ∀ e ∈ (rc12).after, Region.binds .any e = true → e.on ≠ 19 → gt a (rcD e.on) = rcV t0 t1 t2 t3 t4 t5 g c e.on) : wpOp Tryz.prog rcs Q 12 (fun a' w' => a' = a.put (some (rcD 12)) (rcV t0 t1 t2 t3 t4 t5 g c 12) ∧ w' = w) a w :=
 op_ok (i := 12) (o := rc12) rfl rfl (rcx12 a w ((ho.slot (by decide)).trans er)) ⟨rfl, rfl⟩
theorem rcx13 (a : Act) (W : World) (h0 : gt a 59 = (.slice (some ⟨g, 0, none⟩) 6 c)) : (execOp a.eval rc13).run Tryz.prog W = .ok (.value (.pointer (some ⟨g, 4, none⟩))) W := by
 have g0 := gt_eq h0
 clear h0
 simp only [execOp, rc13]
 go_simp
theorem rch13 {Q : Exit → Act → World → Prop} {a0 a : Act} {w : World} (_er : gt a0 8 = (.slice (some ⟨g, 0, none⟩) 6 c)) (_ho : Off rcDs a0 a) (_hc : rcAt t0 t1 t2 t3 t4 t5 g w)
   (hd : ∀ e ∈ (rc13).after, Region.binds .any e = true → e.on ≠ 19 → gt a (rcD e.on) = rcV t0 t1 t2 t3 t4 t5 g c e.on) : wpOp Tryz.prog rcs Q 13 (fun a' w' => a' = a.put (some (rcD 13)) (rcV t0 t1 t2 t3 t4 t5 g c 13) ∧ w' = w) a w :=
 op_ok (i := 13) (o := rc13) rfl rfl (rcx13 a w (hd { on := 12, ground := Go.Ground.data } (by simp [rc13]) (by decide) (by decide))) ⟨rfl, rfl⟩
theorem rcx14 (a : Act) (W : World) (h0 : gt a 60 = .pointer (some ⟨g, 4, none⟩)) (cc : W.cell? ⟨g, 4, none⟩ = some (St t4)) : (execOp a.eval rc14).run Tryz.prog W = .ok (.value (St t4)) W := by
 have g0 := gt_eq h0
 clear h0
 simp only [execOp, rc14]
 go_simp
theorem rch14 {Q : Exit → Act → World → Prop} {a0 a : Act} {w : World} (_er : gt a0 8 = (.slice (some ⟨g, 0, none⟩) 6 c)) (_ho : Off rcDs a0 a) (hc : rcAt t0 t1 t2 t3 t4 t5 g w)
   (hd : ∀ e ∈ (rc14).after, Region.binds .any e = true → e.on ≠ 19 → gt a (rcD e.on) = rcV t0 t1 t2 t3 t4 t5 g c e.on) : wpOp Tryz.prog rcs Q 14 (fun a' w' => a' = a.put (some (rcD 14)) (rcV t0 t1 t2 t3 t4 t5 g c 14) ∧ w' = w) a w :=
 op_ok (i := 14) (o := rc14) rfl rfl (rcx14 a w (hd { on := 13, ground := Go.Ground.data } (by simp [rc14]) (by decide) (by decide)) hc.c4) ⟨rfl, rfl⟩
theorem rcx15 (a : Act) (W : World) (h0 : gt a 8 = (.slice (some ⟨g, 0, none⟩) 6 c)) : (execOp a.eval rc15).run Tryz.prog W = .ok (.value ((.slice (some ⟨g, 0, none⟩) 6 c))) W := by
 have g0 := gt_eq h0
 clear h0
 simp only [execOp, rc15]
 go_simp
theorem rch15 {Q : Exit → Act → World → Prop} {a0 a : Act} {w : World} (er : gt a0 8 = (.slice (some ⟨g, 0, none⟩) 6 c)) (ho : Off rcDs a0 a) (_hc : rcAt t0 t1 t2 t3 t4 t5 g w)
   (_hd : ∀ e ∈ (rc15).after, Region.binds .any e = true → e.on ≠ 19 → gt a (rcD e.on) = rcV t0 t1 t2 t3 t4 t5 g c e.on) : wpOp Tryz.prog rcs Q 15 (fun a' w' => a' = a.put (some (rcD 15)) (rcV t0 t1 t2 t3 t4 t5 g c 15) ∧ w' = w) a w :=
 op_ok (i := 15) (o := rc15) rfl rfl (rcx15 a w ((ho.slot (by decide)).trans er)) ⟨rfl, rfl⟩
theorem rcx16 (a : Act) (W : World) (h0 : gt a 62 = (.slice (some ⟨g, 0, none⟩) 6 c)) : (execOp a.eval rc16).run Tryz.prog W = .ok (.value (.pointer (some ⟨g, 5, none⟩))) W := by
 have g0 := gt_eq h0
 clear h0
 simp only [execOp, rc16]
 go_simp
theorem rch16 {Q : Exit → Act → World → Prop} {a0 a : Act} {w : World} (_er : gt a0 8 = (.slice (some ⟨g, 0, none⟩) 6 c)) (_ho : Off rcDs a0 a) (_hc : rcAt t0 t1 t2 t3 t4 t5 g w)
   (hd : ∀ e ∈ (rc16).after, Region.binds .any e = true → e.on ≠ 19 → gt a (rcD e.on) = rcV t0 t1 t2 t3 t4 t5 g c e.on) : wpOp Tryz.prog rcs Q 16 (fun a' w' => a' = a.put (some (rcD 16)) (rcV t0 t1 t2 t3 t4 t5 g c 16) ∧ w' = w) a w :=
 op_ok (i := 16) (o := rc16) rfl rfl (rcx16 a w (hd { on := 15, ground := Go.Ground.data } (by simp [rc16]) (by decide) (by decide))) ⟨rfl, rfl⟩
theorem rcx17 (a : Act) (W : World) (h0 : gt a 63 = .pointer (some ⟨g, 5, none⟩)) (cc : W.cell? ⟨g, 5, none⟩ = some (St t5)) : (execOp a.eval rc17).run Tryz.prog W = .ok (.value (St t5)) W := by
 have g0 := gt_eq h0
 clear h0
 simp only [execOp, rc17]
 go_simp
theorem rch17 {Q : Exit → Act → World → Prop} {a0 a : Act} {w : World} (_er : gt a0 8 = (.slice (some ⟨g, 0, none⟩) 6 c)) (_ho : Off rcDs a0 a) (hc : rcAt t0 t1 t2 t3 t4 t5 g w)
   (hd : ∀ e ∈ (rc17).after, Region.binds .any e = true → e.on ≠ 19 → gt a (rcD e.on) = rcV t0 t1 t2 t3 t4 t5 g c e.on) : wpOp Tryz.prog rcs Q 17 (fun a' w' => a' = a.put (some (rcD 17)) (rcV t0 t1 t2 t3 t4 t5 g c 17) ∧ w' = w) a w :=
 op_ok (i := 17) (o := rc17) rfl rfl (rcx17 a w (hd { on := 16, ground := Go.Ground.data } (by simp [rc17]) (by decide) (by decide)) hc.c5) ⟨rfl, rfl⟩
theorem rcx18 (a : Act) (W : World) (h0 : gt a 49 = St t0) (h1 : gt a 52 = St t1) (h2 : gt a 55 = St t2) (h3 : gt a 58 = St t3) (h4 : gt a 61 = St t4) (h5 : gt a 64 = St t5) : (execOp a.eval rc18).run Tryz.prog W = .ok (.value (.agg #[St t0, St t1, St t2, St t3, St t4, St t5])) W := by
 have g0 := gt_eq h0
 have g1 := gt_eq h1
 have g2 := gt_eq h2
 have g3 := gt_eq h3
 have g4 := gt_eq h4
 have g5 := gt_eq h5
 clear h0 h1 h2 h3 h4 h5
 simp only [execOp, rc18]
 go_simp
theorem rch18 {Q : Exit → Act → World → Prop} {a0 a : Act} {w : World} (_er : gt a0 8 = (.slice (some ⟨g, 0, none⟩) 6 c)) (_ho : Off rcDs a0 a) (_hc : rcAt t0 t1 t2 t3 t4 t5 g w)
   (hd : ∀ e ∈ (rc18).after, Region.binds .any e = true → e.on ≠ 19 → gt a (rcD e.on) = rcV t0 t1 t2 t3 t4 t5 g c e.on) : wpOp Tryz.prog rcs Q 18 (fun a' w' => a' = a.put (some (rcD 18)) (rcV t0 t1 t2 t3 t4 t5 g c 18) ∧ w' = w) a w :=
 op_ok (i := 18) (o := rc18) rfl rfl (rcx18 a w (hd { on := 2, ground := Go.Ground.data } (by simp [rc18]) (by decide) (by decide)) (hd { on := 5, ground := Go.Ground.data } (by simp [rc18]) (by decide) (by decide)) (hd { on := 8, ground := Go.Ground.data } (by simp [rc18]) (by decide) (by decide)) (hd { on := 11, ground := Go.Ground.data } (by simp [rc18]) (by decide) (by decide)) (hd { on := 14, ground := Go.Ground.data } (by simp [rc18]) (by decide) (by decide)) (hd { on := 17, ground := Go.Ground.data } (by simp [rc18]) (by decide) (by decide))) ⟨rfl, rfl⟩
theorem rcx20 (a : Act) (W : World)  : (execOp a.eval rc20).run Tryz.prog W = .ok (.value (.int .i64 0)) W := by
 simp only [execOp, rc20]
 go_simp
theorem rch20 {Q : Exit → Act → World → Prop} {a0 a : Act} {w : World} (_er : gt a0 8 = (.slice (some ⟨g, 0, none⟩) 6 c)) (_ho : Off rcDs a0 a) (_hc : rcAt t0 t1 t2 t3 t4 t5 g w)
   (_hd : ∀ e ∈ (rc20).after, Region.binds .any e = true → e.on ≠ 19 → gt a (rcD e.on) = rcV t0 t1 t2 t3 t4 t5 g c e.on) : wpOp Tryz.prog rcs Q 20 (fun a' w' => a' = a.put (some (rcD 20)) (rcV t0 t1 t2 t3 t4 t5 g c 20) ∧ w' = w) a w :=
 op_ok (i := 20) (o := rc20) rfl rfl (rcx20 a w ) ⟨rfl, rfl⟩
theorem rcxz (a : Act) (W : World) (rb : Nat) (hg : W.heap[rb]? = some (.cells #[St [], St [], St [], St [], St [], St []] 24 (0, 0))) (h0 : gt a 4 = .pointer (some ⟨rb, 0, none⟩)) (h1 : gt a 65 = .agg #[St t0, St t1, St t2, St t3, St t4, St t5]) :
   (execOp a.eval rc19).run Tryz.prog W = .ok .skip ((((((W.setCell ⟨rb, 0, none⟩ (St t0)).setCell ⟨rb, 1, none⟩ (St t1)).setCell ⟨rb, 2, none⟩ (St t2)).setCell ⟨rb, 3, none⟩ (St t3)).setCell ⟨rb, 4, none⟩ (St t4)).setCell ⟨rb, 5, none⟩ (St t5)) := by
 have g0 := gt_eq h0
 have g1 := gt_eq h1
 have c : ∀ o, W.cell? ⟨rb, o, none⟩ = (#[St [], St [], St [], St [], St [], St []] : Array Value)[o]? := fun o => cell_of_heap hg o
 have f : ∀ o, W.frozen? ⟨rb, o, none⟩ = false := fun o => frozen_of_heap hg o
 have c0 : W.cell? ⟨rb, 0, none⟩ = some (St []) := c 0
 have c1 : W.cell? ⟨rb, 1, none⟩ = some (St []) := c 1
 have c2 : W.cell? ⟨rb, 2, none⟩ = some (St []) := c 2
 have c3 : W.cell? ⟨rb, 3, none⟩ = some (St []) := c 3
 have c4 : W.cell? ⟨rb, 4, none⟩ = some (St []) := c 4
 have c5 : W.cell? ⟨rb, 5, none⟩ = some (St []) := c 5
 clear h0 h1 c hg
 simp only [execOp, rc19]
 go_simp
end
section
variable {t0 t1 t2 t3 t4 t5 : Bs} {g c : Nat}
set_option maxRecDepth 10000 in
theorem rcreg {Q : Exit → Act → World → Prop} {a0 : Act} {w1 : World} {rb : Nat} (er : gt a0 8 = (.slice (some ⟨g, 0, none⟩) 6 c)) (eb : gt a0 4 = .pointer (some ⟨rb, 0, none⟩)) (hz : 66 ≤ a0.tmps.size) (hne : g ≠ rb) (hc : rcAt t0 t1 t2 t3 t4 t5 g w1) (hg : w1.heap[rb]? = some (.cells #[St [], St [], St [], St [], St [], St []] 24 (0, 0)))
   (hd : ∀ (a : Act), Off rcDs a0 a → (∀ i, i < 21 → i ≠ 19 → gt a (rcD i) = rcV t0 t1 t2 t3 t4 t5 g c i) → Q .normal a ((((((w1.drew.setCell ⟨rb, 0, none⟩ (St t0)).setCell ⟨rb, 1, none⟩ (St t1)).setCell ⟨rb, 2, none⟩ (St t2)).setCell ⟨rb, 3, none⟩ (St t3)).setCell ⟨rb, 4, none⟩ (St t4)).setCell ⟨rb, 5, none⟩ (St t5))) : (Code.region 15 rcs true).wp Tryz.prog Q a0 w1 := by
 have hc1 : rcAt t0 t1 t2 t3 t4 t5 g w1.drew := ⟨hc.c0, hc.c1, hc.c2, hc.c3, hc.c4, hc.c5⟩
 have hoff : ∀ (W : World) (k o : Nat) (v : Value), (W.setCell ⟨rb, k, none⟩ v).cell? ⟨g, o, none⟩ = W.cell? ⟨g, o, none⟩ := fun W k o v => World.cell?_of_block (Below.heap_setCell _ _ _ _ (by show g ≠ rb; exact hne))
 have hc2 : rcAt t0 t1 t2 t3 t4 t5 g ((((((w1.drew.setCell ⟨rb, 0, none⟩ (St t0)).setCell ⟨rb, 1, none⟩ (St t1)).setCell ⟨rb, 2, none⟩ (St t2)).setCell ⟨rb, 3, none⟩ (St t3)).setCell ⟨rb, 4, none⟩ (St t4)).setCell ⟨rb, 5, none⟩ (St t5)) := ⟨by rw [hoff, hoff, hoff, hoff, hoff, hoff]; exact hc1.c0, by rw [hoff, hoff, hoff, hoff, hoff, hoff]; exact hc1.c1, by rw [hoff, hoff, hoff, hoff, hoff, hoff]; exact hc1.c2, by rw [hoff, hoff, hoff, hoff, hoff, hoff]; exact hc1.c3, by rw [hoff, hoff, hoff, hoff, hoff, hoff]; exact hc1.c4, by rw [hoff, hoff, hoff, hoff, hoff, hoff]; exact hc1.c5⟩
 refine region_put rcDs rcD (rcV t0 t1 t2 t3 t4 t5 g c) 19 _ rfl rcs_back (fun i hi hn => ⟨(rcD_mem ⟨i, hi⟩ hn).1, Nat.lt_of_lt_of_le (rcD_mem ⟨i, hi⟩ hn).2 hz⟩) (fun i j hi hj h1 h2 h => rcD_inj ⟨i, hi⟩ ⟨j, hj⟩ h1 h2 (fun e => h (congrArg Fin.val e))) ?_ ?_ hd
 · intro i o a w h hi hw ho hd
   have hc : rcAt t0 t1 t2 t3 t4 t5 g w := by rcases hw with rfl | rfl; exact hc1; exact hc2
   match i, h, hi with
   | 0, h, hi => (cases h; exact rch0 er ho hc hd)
   | 1, h, hi => (cases h; exact rch1 er ho hc hd)
   | 2, h, hi => (cases h; exact rch2 er ho hc hd)
   | 3, h, hi => (cases h; exact rch3 er ho hc hd)
   | 4, h, hi => (cases h; exact rch4 er ho hc hd)
   | 5, h, hi => (cases h; exact rch5 er ho hc hd)
   | 6, h, hi => (cases h; exact rch6 er ho hc hd)
   | 7, h, hi => (cases h; exact rch7 er ho hc hd)
   | 8, h, hi => (cases h; exact rch8 er ho hc hd)
   | 9, h, hi => (cases h; exact rch9 er ho hc hd)
   | 10, h, hi => (cases h; exact rch10 er ho hc hd)
   | 11, h, hi => (cases h; exact rch11 er ho hc hd)
   | 12, h, hi => (cases h; exact rch12 er ho hc hd)
   | 13, h, hi => (cases h; exact rch13 er ho hc hd)
   | 14, h, hi => (cases h; exact rch14 er ho hc hd)
   | 15, h, hi => (cases h; exact rch15 er ho hc hd)
   | 16, h, hi => (cases h; exact rch16 er ho hc hd)
   | 17, h, hi => (cases h; exact rch17 er ho hc hd)
   | 18, h, hi => (cases h; exact rch18 er ho hc hd)
   | 19, h, hi => exact absurd rfl hi
   | 20, h, hi => (cases h; exact rch20 er ho hc hd)
   | k + 21, h, hi => simp [rcs] at h
 · intro o a h ho hd
   cases h
   exact op_skip (i := 19) (o := rc19) rfl rfl (rcxz a w1.drew rb hg ((ho.slot (by decide)).trans eb) (hd { on := 18, ground := Go.Ground.data } (show _ ∈ (rc19).after by simp [rc19]) (by decide) (by decide))) ⟨rfl, rfl⟩
end
end Go.Proofs.YtkifchjpgdmcoaaGreatDoor
