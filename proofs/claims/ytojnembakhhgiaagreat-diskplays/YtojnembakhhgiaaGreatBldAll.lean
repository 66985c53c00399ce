import Derived.Test.YtojnembakhhgiaaGreatUseAll
import Derived.OrdersHeld
/- A write is put together. -/
namespace Go.Proofs.YtojnembakhhgiaaGreat
open Go.RowKit

theorem zero81_run (w : World) : (zeroValue 87).run Tryz.prog w = .ok (.agg Tryz.zeroCells87) w := by
  obtain ⟨i0, hi, hz0, hz1, hz2⟩ := info_get info81
  simp [zeroValue, typeInfo, hi, hz0, go_sem]
theorem build81 (W : World) (a b : Int) (cs : List Value) (hl : cs.length = 256) : (Instr.build 87 #[(0, .int .i64 a), (1, .int .i64 b), (2, .agg cs.toArray)]).run Tryz.prog W = .ok (.agg (.int .i64 a :: .int .i64 b :: cs).toArray) W := by
  have hz := zero81_run W
  have hu := Tryz.underlying87
  have h3 : (Tryz.prog.info? 3).map (·.size) = some 1 := by kernel_rfl
  have h78 := size78
  obtain ⟨Z, hZ⟩ : ∃ Z, Z = Tryz.zeroCells87 := ⟨_, rfl⟩
  have hZs : Z.size = 258 := by rw [hZ, zero81]
  rw [← hZ] at hz
  have hc : (Value.agg cs.toArray).cells = cs.toArray := rfl
  have hmp : (Array.mapM (fun f : Field => do
              let __do_lift ← sizeOf f.type
              pure (f.offset, __do_lift))
            #[{ name := "step", type := 3, offset := 0, embedded := false, tag := "", pkgPath := "sluiceway/disk",
                byteOffset := 0 },
              { name := "at", type := 3, offset := 1, embedded := false, tag := "", pkgPath := "sluiceway/disk",
                byteOffset := 8 },
              { name := "what", type := 83, offset := 2, embedded := false, tag := "", pkgPath := "sluiceway/disk",
                byteOffset := 16 }] : Sem (Array (Nat × Nat))).run Tryz.prog W = .ok #[(0, 1), (1, 1), (2, 256)] W := by kernel_rfl
  obtain ⟨Y, hY⟩ : ∃ Y, Y = (Z.setIfInBounds 0 (.int .i64 a)).setIfInBounds 1 (.int .i64 b) := ⟨_, rfl⟩
  have hYs : Y.size = 258 := by rw [hY]; simp [hZs]
  obtain ⟨g1, g2⟩ := Go.Great.foldl_set 2 cs 0 Y
  have hfl : Instr.fill (fun x => (#[(0, 1), (1, 1), (2, 256)] : Array (Nat × Nat))[x]?) (Value.agg Z).cells [(0, .int .i64 a), (1, .int .i64 b), (2, .agg cs.toArray)] = some (.int .i64 a :: .int .i64 b :: cs).toArray := by
    have e1 : (Value.agg Z).cells = Z := rfl
    have e2 : ∀ n : Int, (Value.int .i64 n).cells = #[.int .i64 n] := fun _ => rfl
    rw [e1]
    simp only [Instr.fill, e2]
    simp only [hc, List.getElem?_toArray, List.getElem?_cons_zero, List.getElem?_cons_succ]
    have f1 : Array.foldl (fun cs (x : Value × Nat) => cs.setIfInBounds (0 + x.snd) x.fst) Z #[Value.int IntKind.i64 a].zipIdx = Z.setIfInBounds 0 (.int .i64 a) := rfl
    have f2 : Array.foldl (fun cs (x : Value × Nat) => cs.setIfInBounds (1 + x.snd) x.fst) (Z.setIfInBounds 0 (.int .i64 a)) #[Value.int IntKind.i64 b].zipIdx = Y := hY.symm
    have f3 : Array.foldl (fun cs (x : Value × Nat) => cs.setIfInBounds (2 + x.snd) x.fst) Y cs.toArray.zipIdx = (.int .i64 a :: .int .i64 b :: cs).toArray := by
      have : Array.foldl (fun cs (x : Value × Nat) => cs.setIfInBounds (2 + x.snd) x.fst) Y cs.toArray.zipIdx = (cs.zipIdx 0).foldl (fun cs (x : Value × Nat) => cs.setIfInBounds (2 + x.2) x.1) Y := by
        rw [← Array.foldl_toList]
        simp
      rw [this]
      apply Array.ext_getElem?
      intro k
      rw [g2 k]
      match k with
      | 0 => rw [if_neg (by omega), hY]; simp [hZs]
      | 1 => rw [if_neg (by omega), hY]; simp [hZs]
      | k + 2 =>
        have e : (Value.int .i64 a :: .int .i64 b :: cs).toArray[k + 2]? = cs[k]? := by simp
        rw [e]
        by_cases hk : k < 256
        · rw [if_pos (by omega), show k + 2 - (2 + 0) = k by omega]
        · rw [if_neg (by omega), Array.getElem?_eq_none (by omega), List.getElem?_eq_none (by omega)]
    rw [f1, f2, f3, if_neg (by simp [hZs]), if_neg (by simp [hZs]), if_neg (by simp [hl, hYs])]
  unfold Instr.build
  simp only [Sem.run_bind, hz, Result.andThen_ok, run_underlying hu, hmp, hfl]
  rfl
end Go.Proofs.YtojnembakhhgiaaGreat

/- A disk of which one file is another. -/
namespace Go.Proofs.YtojnembakhhgiaaGreat
open Go.RowKit

theorem nodup_swap {X Y M M' : List Nat} {n : Nat} (h : (X ++ (M ++ Y)).Nodup) (hlt : ∀ g ∈ X ++ (M ++ Y), g < n) (hM : M'.Nodup) (hs : ∀ g ∈ M', g ∈ M ∨ n ≤ g) : (X ++ (M' ++ Y)).Nodup := by
  rw [List.nodup_append] at h ⊢
  obtain ⟨h1, h2, h3⟩ := h
  rw [List.nodup_append] at h2
  obtain ⟨h4, h5, h6⟩ := h2
  refine ⟨h1, ?_, fun a ha b hb => ?_⟩
  · rw [List.nodup_append]
    refine ⟨hM, h5, fun a ha b hb e => ?_⟩
    subst e
    rcases hs a ha with h7 | h7
    · exact h6 a h7 a hb rfl
    · have := hlt a (by simp [hb])
      omega
  · intro e
    subst e
    rcases List.mem_append.1 hb with hb | hb
    · rcases hs a hb with h7 | h7
      · exact h3 a ha a (by simp [h7]) rfl
      · have := hlt a (by simp [ha])
        omega
    · exact h3 a ha a (by simp [hb]) rfl
theorem flat_set {α : Type} (f : α → List Nat) (l : List α) (i : Nat) (hi : i < l.length) (x : α) : (l.set i x).flatMap f = (l.take i).flatMap f ++ (f x ++ (l.drop (i + 1)).flatMap f) := by
  rw [List.set_eq_take_append_cons_drop, if_pos hi, List.flatMap_append, List.flatMap_cons]
theorem flat_get {α : Type} (f : α → List Nat) (l : List α) (i : Nat) (hi : i < l.length) : l.flatMap f = (l.take i).flatMap f ++ (f l[i] ++ (l.drop (i + 1)).flatMap f) := by
  conv => lhs; rw [← List.take_append_drop i l, List.drop_eq_getElem_cons hi]
  rw [List.flatMap_append, List.flatMap_cons]
theorem zip_set {l : List Df} {k : List Fm} (i : Nat) (f : Df) (m : Fm) : (l.set i f).zip (k.set i m) = (l.zip k).set i (f, m) := by
  induction l generalizing k i with
  | nil => simp
  | cons a l ih =>
    cases k with
    | nil => cases i <;> simp
    | cons b k =>
      cases i with
      | zero => rfl
      | succ i => simp only [List.set_cons_succ, List.zip_cons_cons, ih]
theorem find_set {l : List (Df × Fm)} {i : Nat} (hi : i < l.length) {x : Df × Fm} (t : Bs) (hn : x.1.name = l[i].1.name) (hp : x.2.p = l[i].2.p) : ((l.set i x).find? fun y => y.1.name == t).map (fun y => y.2.p) = (l.find? fun y => y.1.name == t).map fun y => y.2.p := by
  induction l generalizing i with
  | nil => simp at hi
  | cons a l ih =>
    cases i with
    | zero =>
      simp only [List.set_cons_zero, List.find?_cons]
      simp only [List.getElem_cons_zero] at hn hp
      rw [hn]
      split
      · simp [hp]
      · rfl
    | succ i =>
      simp only [List.set_cons_succ, List.find?_cons]
      split
      · rfl
      · exact ih (by simpa using hi) (by simpa using hn) (by simpa using hp)
theorem names_set {s s' : Ds} {ms : List Fm} (hl : ms.length = s.files.length) {i : Nat} (hi : i < s.files.length) {f' : Df} {m' : Fm} (hf : s'.files = s.files.set i f') (hn : f'.name = s.files[i].name) (hp : m'.p = (ms[i]'(by omega)).p) : namesOf s' (ms.set i m') = namesOf s ms := by
  funext t
  unfold namesOf
  rw [hf, zip_set]
  refine find_set (by simp; omega) t ?_ ?_
  · simpa using hn
  · simpa using hp
/-- one file is another, with the same number and name, in the same place -/
theorem Dv.upd1 {W w' : World} {d : Nat} {s s' : Ds} {mb : Option Nat} {ms : List Fm} (h : Dv W d s mb ms) {i : Nat} (hi : i < s.files.length) {f' : Df} {m' : Fm} (hf : s'.files = s.files.set i f') (hname : f'.name = s.files[i].name) (hp : m'.p = (ms[i]'(by rw [h.len]; exact hi)).p)
    (hoth : ∀ j (hj : j < s.files.length), j ≠ i → ofNo s'.opn s.files[j].no = ofNo s.opn s.files[j].no)
    (hfa : FileAt w' (pagesOf s' f') f'.settled (ofNo s'.opn f'.no) m')
    (hblk : w'.heap[d]? = some (.cells (dcs s' mb) 56 (0, 0)))
    (hK : ∀ g ∈ Fp d mb ms, g ∉ (ms[i]'(by rw [h.len]; exact hi)).blocks → g ≠ d → w'.heap[g]? = W.heap[g]?)
    (hnew : ∀ g ∈ m'.blocks, g ∈ (ms[i]'(by rw [h.len]; exact hi)).blocks ∨ W.heap.size ≤ g) (hnd : m'.blocks.Nodup) (hok : Dok s') (hsm : s'.steps < 1000000 ∧ s'.inn < 9223372036854775808 ∧ s'.keep < 18446744073709551616) : Dv w' d s' mb (ms.set i m') := by
  have hil : i < ms.length := by rw [h.len]; exact hi
  have hap := h.apart
  have hsplit := flat_get Fm.blocks ms i hil
  have hlt : ∀ g ∈ (d :: (mb.toList ++ (ms.take i).flatMap Fm.blocks)) ++ (ms[i].blocks ++ (ms.drop (i + 1)).flatMap Fm.blocks), g < W.heap.size := fun g hg => h.lt (by
    unfold Fp
    rw [hsplit]
    simpa using hg)
  have hap2 : ((d :: (mb.toList ++ (ms.take i).flatMap Fm.blocks)) ++ (ms[i].blocks ++ (ms.drop (i + 1)).flatMap Fm.blocks)).Nodup := by
    rw [hsplit] at hap
    simpa using hap
  have hother : ∀ g ∈ (d :: (mb.toList ++ (ms.take i).flatMap Fm.blocks)), g ∉ ms[i].blocks := fun g hg hg2 => (List.nodup_append.1 hap2).2.2 g hg g (by simp [hg2]) rfl
  refine ⟨hblk, by rw [List.length_set, hf, List.length_set]; exact h.len, fun j hj hj' => ?_, fun b e => ?_, fun e => ?_, ?_, hok, hsm⟩
  · have hj1 : j < s.files.length := by rw [hf, List.length_set] at hj; exact hj
    have hj2 : j < ms.length := by rw [h.len]; exact hj1
    by_cases e : j = i
    · subst e
      have e1 : s'.files[j] = f' := by simp [hf]
      have e2 : (ms.set j m')[j] = m' := by simp
      rw [e1, e2]
      exact hfa
    · have e1 : s'.files[j] = s.files[j] := by simp only [hf]; rw [List.getElem_set_ne (fun e2 => e e2.symm)]
      have e2 : (ms.set i m')[j] = ms[j] := by rw [List.getElem_set_ne (fun e2 => e e2.symm)]
      have e3 := hoth j hj1 e
      have e4 : pagesOf s' s.files[j] = pagesOf s s.files[j] := by unfold pagesOf; rw [e3]
      rw [e1, e2, e4, e3]
      refine (h.fil j hj1 hj2).same (fun g hg => hK g ?_ ?_ ?_)
      · unfold Fp
        simp only [List.mem_cons, List.mem_append]
        exact .inr (.inr (List.mem_flatMap.2 ⟨_, List.getElem_mem hj2, hg⟩))
      · intro hg2
        have hn : (ms.flatMap Fm.blocks).Nodup := by
          have := (List.nodup_cons.1 hap).2
          exact (List.nodup_append.1 this).2.1
        rcases Nat.lt_or_gt_of_ne e with e5 | e5
        · refine hother g ?_ hg2
          have : ms[j] ∈ ms.take i := by
            rw [List.mem_take_iff_getElem]
            exact ⟨j, by omega, rfl⟩
          simp only [List.mem_cons, List.mem_append]
          exact .inr (.inr (List.mem_flatMap.2 ⟨_, this, hg⟩))
        · have : ms[j] ∈ ms.drop (i + 1) := by
            rw [List.mem_drop_iff_getElem]
            exact ⟨j - (i + 1), by omega, by simp only [show i + 1 + (j - (i + 1)) = j by omega]⟩
          have h7 := (List.nodup_append.1 (List.nodup_append.1 hap2).2.1).2.2 g hg2 g (List.mem_flatMap.2 ⟨_, this, hg⟩)
          exact h7 rfl
      · intro e6
        exact h.not_d (g := g) (by simp only [List.mem_append]; exact .inr (List.mem_flatMap.2 ⟨_, List.getElem_mem hj2, hg⟩)) e6
  · have e1 : namesOf s' (ms.set i m') = namesOf s ms := names_set h.len hi hf hname hp
    rw [e1]
    have hb : b ∈ mb.toList := by rw [e]; simp
    refine (h.map b e).same (hK b ?_ ?_ ?_)
    · unfold Fp
      simp [hb]
    · exact hother b (by simp [hb])
    · exact h.not_d (by simp [hb])
  · have := h.nomap e
    rw [this] at hi
    simp at hi
  · rw [flat_set Fm.blocks ms i hil m']
    have := nodup_swap hap2 hlt hnd hnew
    simpa using this
end Go.Proofs.YtojnembakhhgiaaGreat

/- Steps of a region that draws its order, one by one. -/
namespace Go.Proofs.YtojnembakhhgiaaGreat
open Go.RowKit

theorem load_one {ty : TypeId} {w : World} {b o : Nat} {v : Value} (hl : ∀ W : World, W.cell? ⟨b, o, none⟩ = some v → (Instr.loadAt ty (.pointer (some ⟨b, o, none⟩))).run Tryz.prog W = .ok v W) (h : w.cell? ⟨b, o, none⟩ = some v) : (Instr.loadAt ty (.pointer (some ⟨b, o, none⟩))).run Tryz.prog w = .ok v w := hl w h
/-- a load that yields what the cell holds, wherever S holds -/
theorem y_load {ops : Array Oper} {S : World → Prop} {op : Oper} {a : Act} {v : Value} (hg : op.guard = none) (ty : TypeId) (x : Operand) (ho : op.op = .load ty x) (b o : Nat) (hx : a.eval x = .pointer (some ⟨b, o, none⟩))
    (hr : ∀ w, S w → (Instr.loadAt ty (.pointer (some ⟨b, o, none⟩))).run Tryz.prog w = .ok v w) : YieldsIf Tryz.prog ops S op v a :=
  .inl ⟨by simp [Region.wanted, hg], fun w hw => by
    unfold execOp
    simp only [ho, hx, Sem.run_bind, Sem.run_pure, hr w hw, Result.andThen_ok]⟩
theorem y_all {ops : Array Oper} {S : World → Prop} {op : Oper} {a : Act} {v : Value} (hg : op.guard = none) (hr : ∀ w, (execOp a.eval op).run Tryz.prog w = .ok (.value v) w) : YieldsIf Tryz.prog ops S op v a :=
  .inl ⟨by simp [Region.wanted, hg], fun w _ => hr w⟩
theorem y_build {ops : Array Oper} {S : World → Prop} {op : Oper} {a : Act} {v : Value} (hg : op.guard = none) (ty : TypeId) (ps : Array (Nat × Operand)) (ho : op.op = .build ty ps) (vs : Array (Nat × Value)) (hv : (ps.map fun (i, x) => (i, a.eval x)) = vs)
    (hr : ∀ w, (Instr.build ty vs).run Tryz.prog w = .ok v w) : YieldsIf Tryz.prog ops S op v a :=
  .inl ⟨by simp [Region.wanted, hg], fun w _ => by
    unfold execOp
    simp only [ho, hv, Sem.run_bind, Sem.run_pure, hr w, Result.andThen_ok]⟩
/-- a call of a function in a region -/
theorem op_call {P : Program} {ops : Array Oper} {Q : Exit → Act → World → Prop} {i : Nat} {o : Oper} {a : Act} {w : World} {f : FuncId} {args : Array Value} {K : Act → World → Prop} {R : Value → World → Prop} (ho : ops[i]? = some o) (hg : o.guard = none) (hr : (execOp a.eval o).run P w = .ok (.enter f args) w) (hc : Calls P f args w fun e w' => ∃ v, e = .returned v ∧ R v w') (hK : ∀ v w', R v w' → K (a.put o.dst v) w') : wpOp P ops Q i K a w := by
  unfold wpOp
  simp only [ho]
  rw [if_pos (by simp [Region.wanted, hg])]
  refine .inl ?_
  unfold Oper.wp
  rw [hr]
  refine Calls.mono hc ?_
  rintro e w' ⟨v, rfl, h⟩
  exact hK v w' h
end Go.Proofs.YtojnembakhhgiaaGreat
