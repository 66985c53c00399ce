import Derived.Test.YtojnembakhhgiaaGreatQuo
import Derived.Test.YtojnembakhhgiaaGreatPgoAll
import Derived.Deep.QuietTactic
import Derived.BigQuiet
/- Going over a disk's files in whatever order. -/
namespace Go.Proofs.YtojnembakhhgiaaGreat
open Go.RowKit Go.Maps Go.WideElems

/-- a round of a range over the files -/
theorem next_file {P : Program} (w : World) {ops : Array Oper} {rest : List Oper} {o : Oper} {a : Act} {Q : Exit → Act → World → Prop} (hP : P = Tryz.prog) (hg : o.guard = none) (it : Operand) (hop : o.op = Op.next it false)
    (b r n : Nat) (D : DataW Unit) (left : Lit → Bool) (cnt : Nat) (hit : a.eval it = .pointer (some ⟨r, 0, none⟩)) (h : w.ranges P 9 ptrR b r n D left cnt)
    (hDone : cnt = 0 → (∀ kl, left kl = false) → wpList P ops Q rest (a.put o.dst (.tuple #[.bool false])) w)
    (hMore : ∀ (t : Bs) (m : Option Nat) (w' : World) (cnt' : Nat), left (.string t) = true → (∀ zd, D.atKey (.string t) zd = pd m) → w'.ranges P 9 ptrR b r n D (fun z => left z && !z.sameKey (.string t)) cnt' → cnt' < cnt →
      w.grownBy w' (some r) → w'.heap.size = w.heap.size → (Instr.entry (.pointer (some ⟨r, 0, none⟩))).run P w' = .ok (.tuple #[St t, pv m]) w' → wpList P ops Q rest (a.put o.dst (.tuple #[.bool true, St t, pv m])) w') :
    wpList P ops Q (o :: rest) a w := by
  subst hP
  refine wpList_next_ranges w hg it hop 9 law9 ptrR St pv (fun key kl hk => by obtain ⟨t, rfl, _⟩ := key_inv hk; exact ⟨t, rfl⟩) (fun v y hv => by obtain ⟨m, rfl, _⟩ := ptrR_inv hv; exact ⟨m, rfl⟩) b r n D left cnt hit h hDone ?_
  intro t m kl y w' cnt' hk hl hv hat h1 h2 h3 h4 h5
  obtain ⟨t', e1, rfl⟩ := key_inv hk
  obtain rfl : t = t' := by have := congrArg (fun v => match v with | Value.string s => s.data.toList | _ => []) e1; simpa using this
  rw [ptrR_mk] at hv
  cases hv
  exact hMore t m w' cnt' hl hat h1 h2 h3 h4 h5
/-- the names that were gone over -/
structure Part (N : NM) (K : List Bs) (left : Lit → Bool) : Prop where
  nodup : K.Nodup
  mem : ∀ t ∈ K, (N t).isSome = true
  left : ∀ t, left (.string t) = ((N t).isSome && !K.contains t)
theorem part_nil (N : NM) (D : DataW Unit) (h2 : ∀ t, Maps.has D (.string t) = (N t).isSome) : Part N [] (Maps.has D) := ⟨List.nodup_nil, fun _ h => (by cases h), fun t => by rw [h2 t]; simp⟩
theorem Part.new {N : NM} {K : List Bs} {left : Lit → Bool} (h : Part N K left) {t : Bs} (hl : left (.string t) = true) : (N t).isSome = true ∧ t ∉ K := by
  have h0 := h.left t
  rw [hl] at h0
  have h1 := h0.symm
  rw [Bool.and_eq_true] at h1
  exact ⟨h1.1, by simpa using h1.2⟩
theorem Part.step {N : NM} {K : List Bs} {left : Lit → Bool} (h : Part N K left) {t : Bs} (hl : left (.string t) = true) : Part N (K ++ [t]) (fun z => left z && !z.sameKey (.string t)) := by
  obtain ⟨h1, h2⟩ := h.new hl
  refine ⟨?_, ?_, ?_⟩
  · rw [List.nodup_append]
    exact ⟨h.nodup, by simp, fun a ha b hb e => by simp at hb; subst hb; subst e; exact h2 ha⟩
  · intro s hs
    rcases List.mem_append.1 hs with hs | hs
    · exact h.mem s hs
    · simp at hs; subst hs; exact h1
  · intro s
    rw [h.left s]
    by_cases e : s = t
    · subst e
      rw [WideAt.sameKey_self (by trivial)]
      simp
    · rw [Maps.sameKey_ne (fun h => e (by cases h; rfl))]
      have : (K ++ [t]).contains s = K.contains s := by
        rw [Bool.eq_iff_iff]; simp [e]
      rw [this]; simp
theorem Part.all {N : NM} {K : List Bs} {left : Lit → Bool} (h : Part N K left) (hl : ∀ kl, left kl = false) (t : Bs) : t ∈ K ↔ (N t).isSome = true := by
  refine ⟨h.mem t, fun hN => ?_⟩
  have h0 := h.left t
  rw [hl, hN] at h0
  simpa using h0
theorem perm_of {α : Type} [DecidableEq α] : ∀ {l k : List α}, l.Nodup → k.Nodup → (∀ x, x ∈ l ↔ x ∈ k) → l.Perm k
  | [], k, _, _, h => by
    cases k with
    | nil => exact List.Perm.nil
    | cons x k => have := (h x).2 (by simp); cases this
  | a :: l, k, hl, hk, h => by
    obtain ⟨h1, h2⟩ := List.nodup_cons.1 hl
    have ha : a ∈ k := (h a).1 (by simp)
    have := perm_of (l := l) (k := k.erase a) h2 (hk.erase a) (fun x => by
      rw [hk.mem_erase_iff, ← h x]
      constructor
      · intro hx
        exact ⟨fun e => h1 (e ▸ hx), by simp [hx]⟩
      · rintro ⟨hn, hx⟩
        rcases List.mem_cons.1 hx with e | hx
        · exact absurd e hn
        · exact hx)
    exact (List.Perm.cons a this).trans (List.perm_cons_erase ha).symm
/-- all names, in the order of the range, are those of the files -/
theorem Part.perm {s : Ds} {ms : List Fm} {K : List Bs} {left : Lit → Bool} (h : Part (namesOf s ms) K left) (hok : Dok s) (hlen : ms.length = s.files.length) (hl : ∀ kl, left kl = false) : K.Perm (s.files.map Df.name) :=
  perm_of h.nodup hok.names (fun t => (h.all hl t).trans ⟨names_few hlen t, fun ht => by
    rw [names_some hlen]
    obtain ⟨f, hf, rfl⟩ := List.mem_map.1 ht
    rw [find_is hok hf]
    rfl⟩)
/-- how many pages the file of a name has -/
def plen (s : Ds) (t : Bs) : Nat := match findF s t with
  | none => 0
  | some f => (pagesOf s f).length
theorem plen_sum {s : Ds} (hok : Dok s) {K : List Bs} (h : K.Perm (s.files.map Df.name)) : (K.map (plen s)).sum = usedN s := by
  rw [(h.map (plen s)).sum_nat, List.map_map]
  refine sum_eq fun f hf => ?_
  show plen s f.name = _
  unfold plen
  rw [find_is hok hf]
theorem plen_part {s : Ds} {ms : List Fm} {K : List Bs} {left : Lit → Bool} (h : Part (namesOf s ms) K left) (hok : Dok s) (hlen : ms.length = s.files.length) : (K.map (plen s)).sum ≤ usedN s := by
  have hsub : ∀ x ∈ K, x ∈ s.files.map Df.name := fun x hx => names_few hlen x (h.mem x hx)
  have : ∀ (K L : List Bs), K.Nodup → (∀ x ∈ K, x ∈ L) → (K.map (plen s)).sum ≤ (L.map (plen s)).sum := by
    intro K
    induction K with
    | nil => intro L _ _; exact Nat.zero_le _
    | cons a K ih =>
      intro L hn hs
      obtain ⟨h1, h2⟩ := List.nodup_cons.1 hn
      have ha := hs a (by simp)
      have h3 := ih (L.erase a) h2 (fun x hx => (List.mem_erase_of_ne (fun e : x = a => h1 (e ▸ hx))).2 (hs x (by simp [hx])))
      have h4 := ((List.perm_cons_erase ha).map (plen s)).sum_nat
      rw [h4]
      simp only [List.map_cons, List.sum_cons]
      omega
  refine Nat.le_trans (this K _ h.nodup hsub) (Nat.le_of_eq ?_)
  exact plen_sum hok (List.Perm.refl _)
end Go.Proofs.YtojnembakhhgiaaGreat

/- Used. -/
namespace Go.Proofs.YtojnembakhhgiaaGreat
open Go.RowKit Go.Maps Go.WideElems

set_option maxHeartbeats 4000000 in
set_option maxRecDepth 100000 in
theorem used_any (w : World) (d : Nat) (s : Ds) (mb : Option Nat) (ms : List Fm) (h : Dv w d s mb ms) (hq : usedN s ≤ s.quota) :
    Calls Tryz.prog 16 #[.pointer (some ⟨d, 0, none⟩)] w fun e w' => e = .returned (.int .i64 (usedN s : Int)) ∧ Below w.heap.size w w' := by
  have c1 : w.cell? ⟨d, 1, none⟩ = some (.map mb) := (cell_of_heap h.blk 1).trans rfl
  have hq6 := h.ok.quota
  cases mb with
  | none =>
    have hu : usedN s = 0 := by unfold usedN; rw [h.nomap rfl]; rfl
    rw [hu]
    have hrg := run_range_nilMap (P := Tryz.prog) w 52 9 61 Tryz.underlying52
    have hnx : ∀ ty, (Instr.next (.pointer (some ⟨w.heap.size, 0, none⟩)) false ty).run Tryz.prog (w.alloc (.mapIter none 0 #[] 0)) = _ := fun ty => run_next_nilMap w ty 0 0 #[]
    clear h hq hq6 hu
    go_enter Tryz.func16, Tryz.ntmps16
    go_wp2
    refine wp_loop_rounds 1 ?_
    rw [rounds_succ]
    go_wp2
    go_ret
    exact ⟨rfl, (Below.refl _ _).alloc (Nat.le_refl _) _⟩
  | some b =>
    obtain ⟨n, D, h1, h2, h3⟩ := (h.map b rfl).own
    have HD3 := hid h3
    have HP0 := hid (part_nil _ D h2)
    have HO := hid h1
    have HH := hid h
    have HQ := hid hq
    have HQ6 := hid hq6
    have HBL := hid (h.map b rfl).lt
    clear h h1 h2 h3 hq hq6
    go_enter Tryz.func16, Tryz.ntmps16
    go_wp2_with (first
      | (at_range; refine wpList_range_own _ rfl _ 52 rfl 9 61 law9 Tryz.underlying52 _ b n _ rfl HO.out ?_; intro w0 hrg0 hg0 hs0)
      | go_in)
    go_frame
    have HB0 : Hid (Below w.heap.size w w0) := hid ⟨hg0.os, hg0.tape, hg0.output, hg0.size, fun k hk => hg0.block k hk (by simp)⟩
    have HR0 := hid hrg0
    have HS0 := hid hs0
    clear hrg0 hg0 hs0
    go_loopw [3] (fun vn wr => ∃ K left cnt, wr.ranges Tryz.prog 9 ptrR b w.heap.size n D left cnt ∧ Part (namesOf s ms) K left ∧ vn = .int .i64 ((K.map (plen s)).sum : Int) ∧ Below w.heap.size w wr)
      (fun _ wr => wr.rangeLeft b w.heap.size)
    case atStart => exact ⟨[], _, _, HR0.out, HP0.out, rfl, HB0.out⟩
    case round =>
      clear HB0 HR0 HS0 HO HP0
      obtain ⟨K, left, cnt, hrg, hpt, rfl, hbel⟩ := hrel
      have HRG := hid hrg
      have HPT := hid hpt
      have HBE := hid hbel
      clear hrg hpt hbel
      go_wp2_with (first
        | (at_next; refine next_file _ rfl rfl _ rfl b w.heap.size n _ _ _ rfl HRG.out ?_ ?_)
        | go_in)
      · intro _ hl0
        have HSM := hid (plen_sum HH.out.ok (HPT.out.perm HH.out.ok HH.out.len hl0))
        clear hl0
        go_wp2_with fail
        go_ret
        exact ⟨by rw [HSM.out]; rfl, HBE.out⟩
      · intro t m w1 cnt1 hl hat hrg1 hlt hg1 hs1 hen
        have hpt1 := HPT.out.step hl
        have hle := plen_part hpt1 HH.out.ok HH.out.len
        have h0 := HD3.out t
        rw [hat] at h0
        have hm := pd_inj h0
        have hsm := (HPT.out.new hl).1
        have hb1 : Below w.heap.size w w1 := ⟨hg1.os.trans HBE.out.os, hg1.tape.trans HBE.out.tape, hg1.output.trans HBE.out.output, by rw [hs1]; exact HBE.out.size, fun k hk => (hg1.block k (Nat.lt_of_lt_of_le hk HBE.out.size) (fun e => by cases e; omega)).trans (HBE.out.block k hk)⟩
        rcases find_at (s := s) HH.out.len (t := t) with ⟨e1, _⟩ | ⟨f, fm, e0, e1, e2, e3⟩
        · rw [e1] at hsm
          cases hsm
        · rw [e3] at hm
          subst hm
          have hfa := HH.out.filz _ e0
          obtain ⟨ao, cap, hpv⟩ := row_shape hfa.pg
          have hpl : plen s t = (pagesOf s f).length := by unfold plen; rw [e2]
          have hfa1 := hfa.same (w' := w1) (fun g hg => hb1.block g (hfa.lt hg))
          have c0 : w1.cell? ⟨fm.p, 0, none⟩ = some (.slice ao (pagesOf s f).length cap) := by rw [← hpv]; exact (cell_of_heap hfa1.blk 0).trans rfl
          rw [List.map_append, List.sum_append] at hle
          have hle2 : (K.map (plen s)).sum + (pagesOf s f).length ≤ 65536 := by
            have h6 := HQ.out
            have h7 := HQ6.out
            rw [← hpl]
            simp at hle
            omega
          have hsn : ((K ++ [t]).map (plen s)).sum = (K.map (plen s)).sum + (pagesOf s f).length := by rw [List.map_append, List.sum_append, ← hpl]; simp
          have HSN := hid hsn
          have HPT1 := hid hpt1
          have HRG1 := hid hrg1
          have HLT := hid hlt
          have HB1 := hid hb1
          clear hfa hfa1 hpv hpl e0 e1 e2 e3 hle hsm h0 hpt1 hat hl hrg1 hlt hg1 hs1 hb1 hsn
          generalize (pagesOf s f).length = L at *
          generalize hS : (K.map (plen s)).sum = S at *
          have HSS := hid hS
          clear hS
          generalize fm.p = p at *
          have hwr : IntKind.i64.wrap ((S : Int) + (L : Int)) = ((S + L : Nat) : Int) := by rw [IntKind.wrap_i64]; omega
          have hen2 : (Instr.entry (.pointer (some ⟨w.heap.size, 0, none⟩))).run Tryz.prog w1 = .ok (.tuple #[St t, .pointer (some ⟨p, 0, none⟩)]) w1 := hen
          clear hen
          simp only [pv]
          go_wp2_with go_in
          go_roundw
          case rel => exact ⟨_, _, cnt1, HRG1.out, HPT1.out, by rw [HSN.out]; rfl, HB1.out⟩
          case measure => rw [HRG1.out.left_eq, HRG.out.left_eq]; exact HLT.out
end Go.Proofs.YtojnembakhhgiaaGreat
