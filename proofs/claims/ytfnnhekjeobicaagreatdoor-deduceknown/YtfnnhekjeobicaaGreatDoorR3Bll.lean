import Derived.Test.YtfnnhekjeobicaaGreatDoorTakeAll
import Derived.Test.YtfnnhekjeobicaaGreatDoorMindL
import Derived.Test.YtfnnhekjeobicaaGreatDoorR3All
/- A row of one's own that grows: what stays. -/
namespace Go.Proofs.YtfnnhekjeobicaaGreatDoor
open Go.RowKit Go.Maps Go.WideElems

/-- from w to w' nothing changes but the row's own block; the row lies there, or in a new block -/
structure Gw (w w' : World) (v v' : Value) : Prop where
  os : w'.os = w.os
  tape : w'.tape = w.tape
  output : w'.output = w.output
  size : w.heap.size ≤ w'.heap.size
  block : ∀ k, k < w.heap.size → v.ownBlock ≠ some k → w'.heap[k]? = w.heap[k]?
  own : ∀ k, v'.ownBlock = some k → v.ownBlock = some k ∨ w.heap.size ≤ k
theorem Gw.refl (w : World) (v : Value) : Gw w w v v := ⟨rfl, rfl, rfl, Nat.le_refl _, fun _ _ _ => rfl, fun _ h => Or.inl h⟩
theorem Gw.trans {w w1 w2 : World} {v v1 v2 : Value} (h : Gw w w1 v v1) (g : Gw w1 w2 v1 v2) : Gw w w2 v v2 := by
  refine ⟨g.os.trans h.os, g.tape.trans h.tape, g.output.trans h.output, Nat.le_trans h.size g.size, fun k hk hv => ?_, fun k hk => ?_⟩
  · refine (g.block k (Nat.lt_of_lt_of_le hk h.size) (fun e => ?_)).trans (h.block k hk hv)
    rcases h.own k e with e | e
    · exact hv e
    · omega
  · rcases g.own k hk with e | e
    · exact h.own k e
    · exact Or.inr (Nat.le_trans h.size e)
theorem Gw.of_below {w w' : World} (v : Value) (hb : Below w.heap.size w w') : Gw w w' v v := ⟨hb.os, hb.tape, hb.output, hb.size, fun k hk _ => hb.block k hk, fun _ h => Or.inl h⟩
theorem Gw.below {w w1 w2 : World} {v v' : Value} (h : Gw w w1 v v') (hb : Below w1.heap.size w1 w2) : Gw w w2 v v' := h.trans (Gw.of_below v' hb)
/-- a row of one's own, all of whose blocks are above a mark, leaves what is below the mark -/
theorem Gw.low {w w' : World} {v v' : Value} {B : Nat} (h : Gw w w' v v') (hv : ∀ k, v.ownBlock = some k → B ≤ k) (hB : B ≤ w.heap.size) : Below B w w' :=
  ⟨h.os, h.tape, h.output, h.size, fun k hk => h.block k (by omega) (fun e => by have := hv k e; omega)⟩
theorem append_gw (W : World) (B : Nat) (v : Value) (l : List Bs) (t : Bs) (hown : W.ownsRow B 29 1 v l.length (l.map St)) (hl : l.length < 1000000000000) (hB : B ≤ W.heap.size) :
    ∃ ao kc w', (∀ ty, (Builtin.append_ #[22, 22] ty #[v, .slice (some ⟨W.heap.size, 0, none⟩) 1 1]).run Tryz.prog (W.alloc (.cells #[St t] 29)) = .ok (.slice ao (l.length + 1) kc) w') ∧ w'.ownsRow B 29 1 (.slice ao (l.length + 1) kc) (l ++ [t]).length ((l ++ [t]).map St) ∧ Gw W w' v (.slice ao (l.length + 1) kc) := by
  obtain ⟨i0, hi, hz0, hz1, hz2⟩ := info_parts Tryz.info29
  obtain ⟨v', w', h1, h2, h3, _, h5⟩ := run_append_own_at (P := Tryz.prog) (W.alloc (.cells #[St t] 29)) B 22 22 29 i0 _ 1 16 Tryz.underlying22 hi hz0 hz1 hz2 rfl (by decide) v l.length (l.map St) (hown.alloc _) ⟨W.heap.size, 0, none⟩ 1 1 [St t] rfl (cell_one_new W _ _) (fun u hu => by simp at hu; subst hu; rfl) (by unfold maxLen; omega) (by omega) (by simp; omega)
  have h4 : ∃ ao kc, v' = .slice ao (l.length + 1) kc := by
    rcases h2.2 with ⟨_, e⟩ | ⟨g, cap, _, e, _⟩
    · omega
    · exact ⟨_, _, e⟩
  obtain ⟨ao, kc, rfl⟩ := h4
  have hs : ∀ i, i < W.heap.size → v.ownBlock ≠ some i → w'.heap[i]? = W.heap[i]? := fun k hk hne => by
    rw [h3.block k (by simp; omega) (fun e => hne e.symm)]; exact Below.heap_alloc W _ k hk
  refine ⟨ao, kc, w', fun ty => h1, by simpa using h2, ⟨h3.os, h3.tape, h3.output, ?_, hs, fun g hg => ?_⟩⟩
  · have := h3.size; simp at this; omega
  · rcases h5 with e | e
    · exact Or.inl (e ▸ hg)
    · right; rw [e] at hg; cases hg; simp
/-- the row's texts lie there -/
theorem own_texts {w : World} {B : Nat} {v : Value} {l : List Bs} (h : w.ownsRow B 29 1 v l.length (l.map St)) : Texts w v l := by
  obtain ⟨ao, kc, rfl⟩ := own_shape h
  refine ⟨ao, kc, rfl, fun hne => ?_⟩
  obtain ⟨g, kc', hv, _, hg, hc⟩ := row_cells h (List.length_pos_iff.2 hne)
  cases hv
  exact ⟨g, 0, rfl, hg, fun i hi => by rw [Nat.zero_add]; exact hc i hi⟩
end Go.Proofs.YtfnnhekjeobicaaGreatDoor

/- ref03.within. -/
namespace Go.Proofs.YtfnnhekjeobicaaGreatDoor
open Go.RowKit Go.Maps Go.WideElems

/-- what within does with terms so long -/
def WinC (n : Nat) : Prop := ∀ (V : List Bs), (∀ x ∈ V, ∀ y, Nx x y → y ∈ V) → V.length ≤ 1000000 → ∀ (w : World) (B : Nat) (v : Value) (l : List Bs) (t : Bs), t.length ≤ n → Tm.deep t ≠ 0 → t ∈ V → l.Nodup → (∀ x ∈ l, x ∈ V) →
  w.ownsRow B 29 1 v l.length (l.map St) → B ≤ w.heap.size → Calls Tryz.prog 85 #[v, St t] w fun e w' => ∃ v' r, e = .returned v' ∧ Wi V l t r ∧ w'.ownsRow B 29 1 v' r.length (r.map St) ∧ Gw w w' v v'
theorem Pk.gw {xb : Nat} {c : UInt8} {ao : Option Addr} {kc : Nat} {ks : List Bs} {W W' : World} {v v' : Value} (h : Pk xb c ao kc ks W) (hg : Gw W W' v v') (h1 : v.ownBlock ≠ some xb) (h2 : ∀ g, ao = some ⟨g, 0, none⟩ → v.ownBlock ≠ some g) : Pk xb c ao kc ks W' where
  op := (World.cell?_of_block (hg.block xb h.lt h1)).trans h.op
  kids := (World.cell?_of_block (hg.block xb h.lt h1)).trans h.kids
  kid i hi := by
    obtain ⟨g, e, h3, h4⟩ := h.kid i hi
    exact ⟨g, e, Nat.lt_of_lt_of_le h3 hg.size, (World.cell?_of_block (hg.block g h3 (h2 g e))).trans h4⟩
  lt := Nat.lt_of_lt_of_le h.lt hg.size
  klt g e := Nat.lt_of_lt_of_le (h.klt g e) hg.size
/-- on the way: the row, what lies there of the opened term, and that these are apart -/
structure Wl (V l1 : List Bs) (B : Nat) (w : World) (v : Value) (xb : Nat) (c : UInt8) (ao : Option Addr) (kc : Nat) (ks : List Bs) (P : Bs → Prop) (v0 : Value) (wr : World) : Prop where
  row : ∃ r, wr.ownsRow B 29 1 v0 r.length (r.map St) ∧ Wr V l1 P r
  gw : Gw w wr v v0
  pk : Pk xb c ao kc ks wr
  apart : ∀ k, v0.ownBlock = some k → k ≠ xb ∧ ∀ g, ao = some ⟨g, 0, none⟩ → k ≠ g
  low : B ≤ wr.heap.size
theorem Wl.below {V l1 : List Bs} {B : Nat} {w : World} {v : Value} {xb : Nat} {c : UInt8} {ao : Option Addr} {kc : Nat} {ks : List Bs} {P : Bs → Prop} {v0 : Value} {wr w' : World} (h : Wl V l1 B w v xb c ao kc ks P v0 wr) (hb : Below wr.heap.size wr w') : Wl V l1 B w v xb c ao kc ks P v0 w' := by
  obtain ⟨r, h1, h2⟩ := h.row
  exact ⟨⟨r, own_stays h1 (fun i e => hb.block i (own_ge h1 e).2), h2⟩, h.gw.below hb, h.pk.below hb, h.apart, Nat.le_trans h.low hb.size⟩
theorem Wl.weak {V l1 : List Bs} {B : Nat} {w : World} {v : Value} {xb : Nat} {c : UInt8} {ao : Option Addr} {kc : Nat} {ks : List Bs} {P Q : Bs → Prop} {v0 : Value} {wr : World} (h : Wl V l1 B w v xb c ao kc ks P v0 wr) (hq : ∀ t, Q t → P t) : Wl V l1 B w v xb c ao kc ks Q v0 wr := by
  obtain ⟨r, h1, h2⟩ := h.row
  exact ⟨⟨r, h1, h2.weak hq⟩, h.gw, h.pk, h.apart, h.low⟩
/-- one more walk -/
theorem Wl.call {n : Nat} (ih : WinC n) {V l1 : List Bs} (hV : ∀ x ∈ V, ∀ y, Nx x y → y ∈ V) (hVl : V.length ≤ 1000000) (hl1 : ∀ x ∈ l1, x ∈ V) {B : Nat} {w : World} {v : Value} {xb : Nat} {c : UInt8} {ao : Option Addr} {kc : Nat} {ks : List Bs} {P : Bs → Prop} {v0 : Value} {wr : World} (h : Wl V l1 B w v xb c ao kc ks P v0 wr) {y : Bs} (hy : y.length ≤ n) (hd : Tm.deep y ≠ 0) (hyV : y ∈ V) :
    Calls Tryz.prog 85 #[v0, St y] wr fun e w' => ∃ v', e = .returned v' ∧ Wl V l1 B w v xb c ao kc ks (fun x => x = y ∨ P x) v' w' := by
  obtain ⟨r, h1, h2⟩ := h.row
  refine (ih V hV hVl wr B v0 r y hy hd hyV h2.nodup (fun x hx => (h2.inn x hx).elim (hl1 x) id) h1 h.low).mono ?_
  rintro e w' ⟨v', q, rfl, hw, ho, hg⟩
  have hp := h.pk.gw hg (fun e => (h.apart xb e).1 rfl) (fun g e e2 => (h.apart g e2).2 g e rfl)
  refine ⟨v', rfl, ⟨q, ho, h2.step hw⟩, h.gw.trans hg, hp, fun k hk => ?_, Nat.le_trans h.low hg.size⟩
  rcases hg.own k hk with e | e
  · exact h.apart k e
  · refine ⟨by have := h.pk.lt; omega, fun g hg2 ek => ?_⟩
    have := h.pk.klt g hg2
    omega
theorem Wr.len {V l r : List Bs} {P : Bs → Prop} (h : Wr V l P r) (hl : ∀ x ∈ l, x ∈ V) : r.length ≤ V.length := length_sub h.nodup (fun x hx => (h.inn x hx).elim (hl x) id)
set_option maxRecDepth 100000 in
set_option maxHeartbeats 8000000 in
theorem within_step {n : Nat} (ih : WinC n) : WinC (n + 1) := by
  intro V hV hVl w B v l t htl hd htV hnd hlV hown hB
  obtain ⟨ao0, kc0, rfl⟩ := own_shape hown
  have hll : l.length ≤ 1000000 := Nat.le_trans (length_sub hnd hlV) hVl
  have HHAS := hid (has_any w ao0 kc0 l t (own_texts hown) hll)
  by_cases ht : t ∈ l
  · rw [decide_eq_true ht] at HHAS
    have HT := hid ht
    have HND := hid hnd
    have HOW := hid hown
    clear ht hV hVl htl hd htV hnd hlV hown hB hll
    go_enter Tryz.func85, Tryz.ntmps85
    go_wp2_with fail
    refine HHAS.out.mono ?_
    rintro e w1 ⟨rfl, hw1⟩
    obtain rfl := hw1.symm
    go_wp2_with fail
    go_ret
    exact ⟨_, l, rfl, Wi.old HND.out HT.out, HOW.out, Gw.refl _ _⟩
  · rw [decide_eq_false ht] at HHAS
    obtain ⟨ao1, kc1, w1, hrun, hown1, hgw1⟩ := append_gw w B (.slice ao0 l.length kc0) l t hown (by omega) hB
    have HRUN := hid hrun
    have HO1 := hid hown1
    have HG1 := hid hgw1
    have HT := hid ht
    have HTV := hid htV
    have HV := hid hV
    have HVL := hid hVl
    have HTL := hid htl
    have HD := hid hd
    have HB := hid hB
    have HIH := hid ih
    have HL1 : Hid (∀ x ∈ l ++ [t], x ∈ V) := hid (fun x hx => by
      rcases List.mem_append.1 hx with h | h
      · exact hlV x h
      · simp at h; rw [h]; exact htV)
    have HN1 : Hid ((l ++ [t]).Nodup) := hid (List.nodup_append.2 ⟨hnd, by simp, fun a ha b hb e => by simp at hb; subst hb; subst e; exact ht ha⟩)
    have HOP := hid (dopen_any t w1)
    rw [decide_eq_true hd] at HOP
    have HHD : Hid (∀ y, Nx t y → y.length ≤ n ∧ Tm.deep y ≠ 0 ∧ y ∈ V) := hid (fun y hy => by
      have := hy.less
      exact ⟨by omega, this.1, hV t htV y hy⟩)
    clear hrun hown1 hgw1 ht htV hV hVl htl hd hB ih hlV hnd hown hll
    go_enter Tryz.func85, Tryz.ntmps85
    go_wp2_with fail
    refine HHAS.out.mono ?_
    rintro e w0 ⟨rfl, hw0⟩
    obtain rfl := hw0.symm
    go_wp2_with (first | (at_builtin; refine wpList_append_run rfl (.tmp 17) (.tmp 19) 22 rfl (.slice ao0 l.length kc0) (.slice (some ⟨w.heap.size, 0, none⟩) 1 1) (.slice ao1 (l.length + 1) kc1) w1 rfl rfl HRUN.out ?_) | (go_at_call 89; refine HOP.out.mono ?_; rintro e w2 ⟨c, n0, x, ao, kc, rfl, hc, hc0, hown2, hb2⟩; have HC := hid (hc HD.out); have HO2 := hid hown2; have HB2 := hid hb2; clear hc hc0 hown2 hb2))
    have HW0 : Hid (Wl V (l ++ [t]) B w (.slice ao0 l.length kc0) w2.heap.size c ao kc (kidsR t) (fun _ => False) (.slice ao1 (l.length + 1) kc1) (w2.alloc (.cells #[.int .u8 (c.toNat : Int), .int .i64 n0, .string x, .slice ao (kidsR t).length kc] 66))) := hid (by
      have hb3 : Below w1.heap.size w1 (w2.alloc (.cells #[.int .u8 (c.toNat : Int), .int .i64 n0, .string x, .slice ao (kidsR t).length kc] 66)) := HB2.out.alloc HB2.out.size _
      refine ⟨⟨l ++ [t], own_stays HO1.out (fun i e => hb3.block i (own_ge HO1.out e).2), Wr.refl HN1.out⟩, HG1.out.below hb3, Pk.new HO2.out, fun k hk => ?_, Nat.le_trans (Nat.le_trans HB.out HG1.out.size) hb3.size⟩
      have h1 := (own_ge HO1.out hk).2
      have h2 := HB2.out.size
      refine ⟨by omega, fun g e => ?_⟩
      have h3 := (own_ge HO2.out (g := g) (by rw [e]; rfl)).1
      omega)
    generalize w2.alloc (.cells #[.int .u8 (c.toNat : Int), .int .i64 n0, .string x, .slice ao (kidsR t).length kc] 66) = w3 at HW0 ⊢
    clear HO1 HO2 HG1 HB2 HRUN HN1 HOP HHAS HB
    generalize hxb : w2.heap.size = xb at HW0 ⊢
    clear hxb
    obtain ⟨K, hK⟩ : ∃ K, K = (kidsR t).length := ⟨_, rfl⟩
    have hKb : K ≤ 32 := by rw [hK]; exact kidsR_count t
    have HKK := hid hK
    rw [← hK]
    clear hK
    go_loopg [0, 7] K (fun gg s0 s7 wr => ∃ (i : Nat) (v0 : Value), v0 = s0 ∧ i ≤ K ∧ gg = K - i ∧ s7 = .int .i64 (i : Int) ∧ Wl V (l ++ [t]) B w (.slice ao0 l.length kc0) xb c ao kc (kidsR t) (fun y => ∃ j, ∃ h : j < (kidsR t).length, j < i ∧ (kidsR t)[j] = y) v0 wr)
    case atStart => exact ⟨0, _, rfl, by omega, by omega, rfl, HW0.out.weak (fun y hy => by obtain ⟨j, _, h, _⟩ := hy; omega)⟩
    case round =>
      clear HW0
      obtain ⟨i, v0, rfl, hi, rfl, rfl, hwl⟩ := hrel
      have HWL := hid hwl
      clear hwl
      have hk3 := HWL.out.pk.kids
      rw [← HKK.out] at hk3
      by_cases hil : i < K
      · have hi1 : (i : Int) < (K : Int) := by omega
        have hik : i < (kidsR t).length := by rw [← HKK.out]; exact hil
        obtain ⟨g, hao, hg, hk0⟩ := HWL.out.pk.kid i hik
        subst hao
        have HNX := hid (HHD.out (kidsR t)[i] (.kid (List.getElem_mem hik)))
        have HCA := hid (HWL.out.call HIH.out HV.out HVL.out HL1.out HNX.out.1 HNX.out.2.1 HNX.out.2.2)
        have HST : Hid (∀ y, (∃ j, ∃ h : j < (kidsR t).length, j < i + 1 ∧ (kidsR t)[j] = y) → (y = (kidsR t)[i] ∨ ∃ j, ∃ h : j < (kidsR t).length, j < i ∧ (kidsR t)[j] = y)) := hid (fun y hy => by
          obtain ⟨j, h, hj, e⟩ := hy
          by_cases e2 : j = i
          · subst e2; exact Or.inl e.symm
          · exact Or.inr ⟨j, h, by omega, e⟩)
        generalize (kidsR t)[i] = y at hk0 HCA HST
        go_wp2_with (first | (go_at_call 85; refine HCA.out.mono ?_; rintro e w4 ⟨v', rfl, hwl4⟩; have HW4 := hid (hwl4.weak HST.out); clear hwl4))
        go_roundg (K - (i + 1))
        case measure => omega
        case rel => exact ⟨i + 1, _, rfl, by omega, rfl, by go_num, HW4.out⟩
      · have hi1 : ¬ (i : Int) < (K : Int) := by omega
        have HWK : Hid (Wl V (l ++ [t]) B w (.slice ao0 l.length kc0) xb c ao kc (kidsR t) (fun y => y ∈ kidsR t) v0 wr) := hid (HWL.out.weak (fun y hy => by
          obtain ⟨j, h, e⟩ := List.getElem_of_mem hy
          exact ⟨j, h, by have := HKK.out; omega, e⟩))
        clear HWL
        have HSE := hid (secret_any wr t)
        obtain ⟨s, yes, hsec⟩ : ∃ s yes, sec t = (s, yes) := ⟨_, _, rfl⟩
        rw [hsec] at HSE
        have HSC := hid hsec
        clear hsec
        go_upto_if 45 with (first | (go_at_call 108; refine HSE.out.mono ?_; rintro e w4 ⟨rfl, hb4⟩; have HW4 := hid (HWK.out.below hb4); clear hb4))
        clear HSE HWK hk3 hi1 hil hi
        go_cut [0] from 46 (fun s0 wc => ∃ v6, v6 = s0 ∧ Wl V (l ++ [t]) B w (.slice ao0 l.length kc0) xb c ao kc (kidsR t) (fun y => y ∈ kidsR t ∨ sec t = (y, true)) v6 wc)
        case first =>
          cases yes
          · go_wp2_with fail
            go_meet
            case rel => exact ⟨_, rfl, HW4.out.weak (fun y hy => by
              rcases hy with h | h
              · exact h
              · rw [HSC.out] at h; cases h)⟩
          · have HNX := hid (HHD.out s (.sec HSC.out))
            have HCA := hid (HW4.out.call HIH.out HV.out HVL.out HL1.out HNX.out.1 HNX.out.2.1 HNX.out.2.2)
            go_wp2_with (first | (go_at_call 85; refine HCA.out.mono ?_; rintro e w5 ⟨v', rfl, hwl5⟩; have HW5 := hid hwl5; clear hwl5))
            go_meet
            case rel => exact ⟨_, rfl, HW5.out.weak (fun y hy => by
              rcases hy with h | h
              · exact Or.inr h
              · rw [HSC.out] at h; cases h; exact Or.inl rfl)⟩
        case rest =>
          clear HW4
          obtain ⟨v6, rfl, hwl6⟩ := hcut
          have HW6 := hid hwl6
          clear hwl6 HSC
          have hop := HW6.out.pk.op
          by_cases h88 : c = 88
          · subst h88
            obtain ⟨a, b, hab⟩ := agree_kids HD.out HC.out
            have hk2 : (kidsR t).length = 2 := by rw [kidsR_of HD.out, hab]; rfl
            have HK2 := hid hk2
            clear hab hk2
            go_wp2_with fail
            clear hop
            go_loopg [0, 10, 11, 12] 2 (fun gg s0 s10 _s11 _s12 wr => ∃ (i : Nat) (v0 : Value), v0 = s0 ∧ i ≤ 2 ∧ gg = 2 - i ∧ s10 = .int .i64 (i : Int) ∧ Wl V (l ++ [t]) B w (.slice ao0 l.length kc0) xb 88 ao kc (kidsR t) (fun y => (y ∈ kidsR t ∨ sec t = (y, true)) ∨ ∃ j, ∃ h : j < (kidsR t).length, j < i ∧ y = 80 :: (kidsR t)[j] ∧ Tm.deep y ≠ 0) v0 wr)
            case atStart => exact ⟨0, _, rfl, by omega, rfl, rfl, HW6.out.weak (fun y hy => by
              rcases hy with h | ⟨j, _, h, _⟩
              · exact h
              · omega)⟩
            case round =>
              clear HW6
              obtain ⟨i, v0, rfl, hi, rfl, rfl, hwl⟩ := hrel
              have HWL := hid hwl
              clear hwl
              by_cases hil : i < 2
              · have hi1 : (i : Int) < 2 := by omega
                have hik : i < (kidsR t).length := by rw [HK2.out]; exact hil
                have hk3 := HWL.out.pk.kids
                rw [HK2.out] at hk3
                obtain ⟨g, hao, hg, hk0⟩ := HWL.out.pk.kid i hik
                subst hao
                have HON := hid (fun W => rone_any 80 (kidsR t)[i] W)
                have HNX : Hid (Tm.deep (80 :: (kidsR t)[i]) ≠ 0 → Nx t (80 :: (kidsR t)[i])) := hid (fun h => .key HD.out HC.out (by rw [← kidsR_of HD.out]; exact List.getElem_mem hik) h)
                have HST : Hid (∀ y, ((y ∈ kidsR t ∨ sec t = (y, true)) ∨ ∃ j, ∃ h : j < (kidsR t).length, j < i + 1 ∧ y = 80 :: (kidsR t)[j] ∧ Tm.deep y ≠ 0) → (y = 80 :: (kidsR t)[i] ∧ Tm.deep y ≠ 0) ∨ ((y ∈ kidsR t ∨ sec t = (y, true)) ∨ ∃ j, ∃ h : j < (kidsR t).length, j < i ∧ y = 80 :: (kidsR t)[j] ∧ Tm.deep y ≠ 0)) := hid (fun y hy => by
                  rcases hy with h | ⟨j, h, hj, e, hd⟩
                  · exact Or.inr (Or.inl h)
                  · by_cases e2 : j = i
                    · subst e2; exact Or.inl ⟨e, hd⟩
                    · exact Or.inr (Or.inr ⟨j, h, by omega, e, hd⟩))
                generalize (kidsR t)[i] = y at hk0 HON HNX HST
                by_cases hr : (oneRes 80 y).2 = 0
                · obtain ⟨e1, e2⟩ := one_key hr
                  have e3 : oneRes 80 y = (80 :: y, 0) := one_ok e2
                  rw [e3] at HON
                  have HN2 := hid (HHD.out _ (HNX.out e2))
                  have HE2 := hid e2
                  clear hr e1 e2 e3
                  generalize hz : 80 :: y = z at HON HST HN2 HNX
                  clear hz
                  go_wp2_with (first | (go_at_call 109; refine (HON.out _).mono ?_; rintro e w7 ⟨rfl, hb7⟩; have HW7 := hid (HWL.out.below hb7); have HCA := hid (HW7.out.call HIH.out HV.out HVL.out HL1.out HN2.out.1 HN2.out.2.1 HN2.out.2.2); clear hb7) | (go_at_call 85; refine HCA.out.mono ?_; rintro e w8 ⟨v', rfl, hwl8⟩; have HW8 := hid (hwl8.weak (fun x hx => (HST.out x hx).imp And.left id)); clear hwl8))
                  go_roundg (2 - (i + 1))
                  case measure => omega
                  case rel => exact ⟨i + 1, _, rfl, by omega, rfl, by go_num, HW8.out⟩
                · have HNE : Hid (Tm.deep (80 :: y) = 0) := hid (Classical.byContradiction fun h => hr (by rw [one_ok h]))
                  have hr2 : ¬ ((oneRes 80 y).2 : Int) = 0 := by omega
                  have hr3 : (((oneRes 80 y).2 : Int) == 0) = false := by simpa using hr2
                  go_wp2_with (first | (go_at_call 109; refine (HON.out _).mono ?_; rintro e w7 ⟨rfl, hb7⟩; have HW7 := hid (HWL.out.below hb7); clear hb7))
                  go_roundg (2 - (i + 1))
                  case measure => omega
                  case rel => exact ⟨i + 1, _, rfl, by omega, rfl, by go_num, HW7.out.weak (fun x hx => by
                    rcases HST.out x hx with ⟨e, hd⟩ | h
                    · rw [e] at hd; exact absurd HNE.out hd
                    · exact h)⟩
              · have hi1 : ¬ (i : Int) < 2 := by omega
                go_wp2_with fail
                go_ret
                obtain ⟨r, h1, h2⟩ := HWL.out.row
                refine ⟨_, rfl, r, Wi.of HT.out HTV.out (h2.weak (fun y hy => ?_)), h1, HWL.out.gw⟩
                cases hy with
                | kid hk => exact Or.inl (Or.inl hk)
                | sec hs => exact Or.inl (Or.inr hs)
                | key hd h8 hk hr =>
                  rw [← kidsR_of hd] at hk
                  obtain ⟨j, hj, e⟩ := List.getElem_of_mem hk
                  exact Or.inr ⟨j, hj, by have := HK2.out; omega, by rw [e], hr⟩
          · have h88z : ¬ (c.toNat : Int) = 88 := fun e => h88 (UInt8.toNat_inj.1 (by have : (88 : UInt8).toNat = 88 := rfl; omega))
            have h88y : ((c.toNat : Int) == 88) = false := by simpa using h88z
            have HN8 : Hid (t.head? ≠ some 88) := hid (by rw [HC.out]; simpa using h88)
            go_wp2_with fail
            go_ret
            obtain ⟨r, h1, h2⟩ := HW6.out.row
            refine ⟨_, r, rfl, Wi.of HT.out HTV.out (h2.weak (fun y hy => ?_)), h1, HW6.out.gw⟩
            cases hy with
            | kid hk => exact Or.inl hk
            | sec hs => exact Or.inr hs
            | key hd h8 hk hr => exact absurd h8 HN8.out
theorem within_all : ∀ n, WinC n
  | 0 => fun V _ _ w B v l t h hd => by
    have := Tm.len_pos (Tm.deep_is hd).1
    omega
  | n + 1 => within_step (within_all n)
end Go.Proofs.YtfnnhekjeobicaaGreatDoor

/- ref03.parts, ref03.opened, ref03.open. -/
namespace Go.Proofs.YtfnnhekjeobicaaGreatDoor
open Go.RowKit Go.Maps Go.WideElems

theorem Texts.shape {w : World} {v : Value} {l : List Bs} (h : Texts w v l) : ∃ ao kc, v = .slice ao l.length kc := by
  obtain ⟨ao, cap, e, _⟩ := h
  exact ⟨ao, cap, e⟩
/-- a texts' row from a place on: where its blocks are -/
def Txb (v : Value) (B : Nat) : Prop := ∀ g o n c, v = .slice (some ⟨g, o, none⟩) n c → B ≤ g
set_option maxRecDepth 100000 in
set_option maxHeartbeats 4000000 in
theorem dparts_any (w : World) (ao0 : Option Addr) (kc0 : Nat) (M : List Bs) (t : Bs) (hM : Texts w (.slice ao0 M.length kc0) M) (hMl : M.length ≤ 1000000) (hd : Tm.deep t ≠ 0) :
    Calls Tryz.prog 67 #[.slice ao0 M.length kc0, St t] w fun e w' => ∃ ao kc, e = .returned (.slice ao (partsR M t).length kc) ∧ Texts w' (.slice ao (partsR M t).length kc) (partsR M t) ∧ Below w.heap.size w w' ∧ (∀ g o, ao = some ⟨g, o, none⟩ → w.heap.size ≤ g) := by
  have HOP := hid (dopen_any t w)
  rw [decide_eq_true hd] at HOP
  have HD := hid hd
  have HK := hid (kidsR_of hd)
  have HHA := hid (fun W k (hb : Below w.heap.size w W) => has_any W ao0 kc0 M k (texts_below hM hb) hMl)
  clear hd hM hMl
  generalize hq : M.length = q at HHA
  have HQ := hid hq
  clear hq
  go_enter Tryz.func67, Tryz.ntmps67
  go_wp2_with fail
  refine HOP.out.mono ?_
  rintro e w1 ⟨c, n0, x, ao, kc, rfl, hc, hc0, hown, hb⟩
  have HC := hid (hc HD.out)
  have HO := hid hown
  have HP := hid (Pk.new (c := c) (n := n0) (x := x) hown)
  have HB : Hid (Below w.heap.size w (w1.alloc (.cells #[.int .u8 (c.toNat : Int), .int .i64 n0, .string x, .slice ao (kidsR t).length kc] 66))) := hid (hb.alloc hb.size _)
  have HTX : Hid (Texts (w1.alloc (.cells #[.int .u8 (c.toNat : Int), .int .i64 n0, .string x, .slice ao (kidsR t).length kc] 66)) (.slice ao (kidsR t).length kc) (kidsR t)) := hid (texts_below (own_texts hown) ((Below.refl _ _).alloc (Nat.le_refl _) _))
  have HLO : Hid (∀ g o, ao = some ⟨g, o, none⟩ → o = 0 ∧ w.heap.size ≤ g) := hid (fun g o e => by
    subst e
    rcases hown.2 with ⟨h1, _⟩ | ⟨g', cap, cur, hv, hb', _⟩
    · cases h1
    · cases hv
      exact ⟨rfl, hb'⟩)
  have HCP : Hid ((kidsR t).length ≤ kc) := hid (by
    rcases hown.2 with ⟨h1, h2⟩ | ⟨g', cap, cur, hv, hb', _, h3, _⟩
    · omega
    · cases hv; exact h3)
  clear hc hc0 hown hb HOP
  go_upto_if 14 with fail
  generalize w1.alloc (.cells #[.int .u8 (c.toNat : Int), .int .i64 n0, .string x, .slice ao (kidsR t).length kc] 66) = w2 at HP HB HTX ⊢
  have hop := HP.out.op
  have hk3 := HP.out.kids
  by_cases h84 : c = 84
  · subst h84
    have HR : Hid (partsR M t = kidsR t) := hid (by unfold partsR; rw [if_pos HC.out])
    go_wp2_with fail
    go_ret
    refine ⟨ao, kc, by rw [HR.out]; rfl, by rw [HR.out]; exact HTX.out, HB.out, fun g o e => (HLO.out g o e).2⟩
  · have h84z : ¬ (c.toNat : Int) = 84 := fun e => h84 (UInt8.toNat_inj.1 (by have : (84 : UInt8).toNat = 84 := rfl; omega))
    have h84y : ((c.toNat : Int) == 84) = false := by simpa using h84z
    have h84h : t.head? ≠ some 84 := by rw [HC.out]; simpa using h84
    by_cases h66 : c = 66
    · subst h66
      obtain ⟨k, m, hkm⟩ : ∃ k m, kidsR t = [k, m] := by
        cases t with
        | nil => exact absurd rfl HD.out
        | cons d l =>
          have := HC.out
          simp at this
          subst this
          rw [HK.out]
          exact Tm.kids_pair HD.out (by decide) (by decide) (by decide) (by decide) (by decide)
      have HR : Hid (partsR M t = if k ∈ M then [m] else []) := hid (by unfold partsR; rw [if_neg h84h, if_pos HC.out, hkm])
      rw [hkm] at HP HTX hk3 HCP
      have hcap : 2 ≤ kc := HCP.out
      obtain ⟨g, hao, hg, hk0⟩ := HP.out.kid 0 (by simp)
      subst hao
      simp only [List.length_cons, List.length_nil, List.getElem_cons_zero] at hk3 hk0
      have HH := hid (HHA.out w2 k HB.out)
      clear hkm h84 h84z h84y h84h
      by_cases hin : k ∈ M
      · rw [decide_eq_true hin] at HH
        have HIN := hid hin
        clear hin
        go_wp2_with (first | (go_at_call 65; refine HH.out.mono ?_; rintro e w3 ⟨rfl, hw3⟩; obtain rfl := hw3.symm))
        obtain ⟨g1, hao1, hg1, hk1⟩ := HP.out.kid 1 (by simp)
        cases hao1
        have HK1 := hid hk1
        go_ret
        have ht : Texts w2 (.slice (some ⟨g, 1, none⟩) 1 (kc - 1)) [m] := ⟨_, _, rfl, fun _ => ⟨g, 1, rfl, hg, fun i hi => by
          have : i = 0 := by simp at hi; exact hi
          subst this
          exact HK1.out⟩⟩
        exact ⟨some ⟨g, 1, none⟩, kc - 1, by rw [HR.out, if_pos HIN.out]; rfl, by rw [HR.out, if_pos HIN.out]; exact ht, HB.out, fun g o e => by cases e; exact (HLO.out _ _ rfl).2⟩
      · rw [decide_eq_false hin] at HH
        have HIN := hid hin
        clear hin
        go_wp2_with (first | (go_at_call 65; refine HH.out.mono ?_; rintro e w3 ⟨rfl, hw3⟩; obtain rfl := hw3.symm))
        go_ret
        refine ⟨none, 0, by rw [HR.out, if_neg HIN.out]; rfl, by rw [HR.out, if_neg HIN.out]; exact texts_nil _, HB.out, fun g o e => by cases e⟩
    · have h66z : ¬ (c.toNat : Int) = 66 := fun e => h66 (UInt8.toNat_inj.1 (by have : (66 : UInt8).toNat = 66 := rfl; omega))
      have h66y : ((c.toNat : Int) == 66) = false := by simpa using h66z
      have HR : Hid (partsR M t = []) := hid (by unfold partsR; rw [if_neg h84h, if_neg (by rw [HC.out]; simpa using h66)])
      go_wp2_with fail
      go_ret
      refine ⟨none, 0, by rw [HR.out]; rfl, by rw [HR.out]; exact texts_nil _, HB.out, fun g o e => by cases e⟩
/-- the texts at a place, wherever nothing of theirs changes -/
theorem Texts.cells {w : World} {ao : Option Addr} {kc : Nat} {l : List Bs} (h : Texts w (.slice ao l.length kc) l) (i : Nat) (hi : i < l.length) : ∃ g o, ao = some ⟨g, o, none⟩ ∧ g < w.heap.size ∧ w.cell? ⟨g, o + i, none⟩ = some (St l[i]) := by
  obtain ⟨ao', cap', he, ht⟩ := h
  cases he
  obtain ⟨g, o, e, hg, hc⟩ := ht (fun e => by rw [e] at hi; simp at hi)
  exact ⟨g, o, e, hg, hc i hi⟩
theorem Texts.gw {w w' : World} {ao : Option Addr} {kc : Nat} {l : List Bs} {v v' : Value} (h : Texts w (.slice ao l.length kc) l) (hg : Gw w w' v v') (ha : ∀ g o, ao = some ⟨g, o, none⟩ → v.ownBlock ≠ some g) : Texts w' (.slice ao l.length kc) l := by
  obtain ⟨ao', cap', he, ht⟩ := h
  cases he
  refine ⟨_, _, rfl, fun hne => ?_⟩
  obtain ⟨g, o, e, h1, h2⟩ := ht hne
  exact ⟨g, o, e, Nat.lt_of_lt_of_le h1 hg.size, fun i hi => (World.cell?_of_block (hg.block g h1 (ha g o e))).trans (h2 i hi)⟩
theorem partsR_few (M : List Bs) (t : Bs) : (partsR M t).length ≤ 32 := by
  unfold partsR
  split
  · exact kidsR_count t
  · split
    · split
      · split <;> simp
      · simp
    · simp
set_option maxRecDepth 100000 in
set_option maxHeartbeats 4000000 in
theorem opened_any (w : World) (ao0 : Option Addr) (kc0 : Nat) (M : List Bs) (t : Bs) (hM : Texts w (.slice ao0 M.length kc0) M) (hMl : M.length ≤ 1000000) (hd : Tm.deep t ≠ 0) :
    Calls Tryz.prog 86 #[.slice ao0 M.length kc0, St t] w fun e w' => ∃ n : Nat, e = .returned (.int .i64 (n : Int)) ∧ (n = 0 ↔ ∀ p ∈ partsR M t, p ∈ M) ∧ Below w.heap.size w w' := by
  have HPT := hid (dparts_any w ao0 kc0 M t hM hMl hd)
  have HHA := hid (fun W k (hb : Below w.heap.size w W) => has_any W ao0 kc0 M k (texts_below hM hb) hMl)
  have HPF := hid (partsR_few M t)
  clear hd hM hMl
  generalize partsR M t = ps at HPT HPF ⊢
  generalize hq : M.length = q at HHA HPT
  clear hq
  obtain ⟨K, hK⟩ : ∃ K, K = ps.length := ⟨_, rfl⟩
  have HKK := hid hK
  have hKb : K ≤ 32 := by rw [hK]; exact HPF.out
  rw [← hK] at HPT
  clear hK
  go_enter Tryz.func86, Tryz.ntmps86
  go_wp2_with fail
  refine HPT.out.mono ?_
  rintro e w1 ⟨ao, kc, rfl, htx, hb, hlo⟩
  have HTX := hid htx
  have HB := hid hb
  rw [HKK.out] at HTX
  clear htx hb hlo HPT
  go_wp2_with fail
  go_loopg [5, 7] K (fun gg s5 s7 wr => ∃ (i n : Nat), i ≤ K ∧ gg = K - i ∧ n ≤ i ∧ s5 = .int .i64 (n : Int) ∧ s7 = .int .i64 (i : Int) ∧ wr = w1 ∧ (n = 0 ↔ ∀ j (h : j < ps.length), j < i → ps[j] ∈ M))
  case atStart => exact ⟨0, 0, by omega, by omega, by omega, rfl, rfl, rfl, by simp⟩
  case round =>
    obtain ⟨i, n, hi, rfl, hni, rfl, rfl, hwr, hiff⟩ := hrel
    obtain rfl := hwr.symm
    have HI := hid hiff
    clear hiff hwr
    by_cases hil : i < K
    · have hi1 : (i : Int) < (K : Int) := by omega
      have hik : i < ps.length := by rw [← HKK.out]; exact hil
      obtain ⟨g, o, hao, hg, hc⟩ := HTX.out.cells i hik
      subst hao
      have HH := hid (HHA.out w1 ps[i] HB.out)
      have HST : Hid ((∀ j (h : j < ps.length), j < i + 1 → ps[j] ∈ M) ↔ (ps[i] ∈ M ∧ ∀ j (h : j < ps.length), j < i → ps[j] ∈ M)) := hid ⟨fun h => ⟨h i hik (by omega), fun j hj h2 => h j hj (by omega)⟩, fun h j hj h2 => by
        by_cases e : j = i
        · subst e; exact h.1
        · exact h.2 j hj (by omega)⟩
      generalize ps[i] = y at hc HH HST
      by_cases hin : y ∈ M
      · rw [decide_eq_true hin] at HH
        have HIN := hid hin
        clear hin
        go_wp2_with (first | (go_at_call 65; refine HH.out.mono ?_; rintro e w3 ⟨rfl, hw3⟩; obtain rfl := hw3.symm))
        go_roundg (K - (i + 1))
        case measure => omega
        case rel => exact ⟨i + 1, n, by omega, rfl, by omega, rfl, by go_num, rfl, by rw [HST.out, HI.out]; exact ⟨fun h => ⟨HIN.out, h⟩, fun h => h.2⟩⟩
      · rw [decide_eq_false hin] at HH
        have HIN := hid hin
        clear hin
        go_wp2_with (first | (go_at_call 65; refine HH.out.mono ?_; rintro e w3 ⟨rfl, hw3⟩; obtain rfl := hw3.symm))
        go_roundg (K - (i + 1))
        case measure => omega
        case rel => exact ⟨i + 1, n + 1, by omega, rfl, by omega, by go_num, by go_num, rfl, by rw [HST.out]; exact ⟨fun h => by omega, fun h => absurd h.1 HIN.out⟩⟩
    · have hi1 : ¬ (i : Int) < (K : Int) := by omega
      go_wp2_with fail
      go_ret
      refine ⟨n, rfl, ?_, HB.out⟩
      rw [HI.out]
      exact ⟨fun h p hp => by
        obtain ⟨j, hj, e⟩ := List.getElem_of_mem hp
        rw [← e]
        exact h j hj (by have := HKK.out; omega), fun h j hj _ => h _ (List.getElem_mem hj)⟩
/-- those that are not there yet, behind -/
def addL (M ps : List Bs) : List Bs := ps.foldl (fun M p => if p ∈ M then M else M ++ [p]) M
theorem addL_snoc (M ps : List Bs) (p : Bs) : addL M (ps ++ [p]) = if p ∈ addL M ps then addL M ps else addL M ps ++ [p] := by unfold addL; rw [List.foldl_append]; rfl
theorem addL_len (M ps : List Bs) : (addL M ps).length ≤ M.length + ps.length := by
  induction ps generalizing M with
  | nil => simp [addL]
  | cons p ps ih =>
    have e : addL M (p :: ps) = addL (if p ∈ M then M else M ++ [p]) ps := rfl
    rw [e]
    by_cases h : p ∈ M
    · rw [if_pos h]
      have := ih M
      simp only [List.length_cons]
      omega
    · rw [if_neg h]
      have := ih (M ++ [p])
      simp only [List.length_append, List.length_cons, List.length_nil] at this ⊢
      omega
set_option maxRecDepth 100000 in
set_option maxHeartbeats 4000000 in
theorem open_any3 (w : World) (B : Nat) (v : Value) (M : List Bs) (t : Bs) (hM : w.ownsRow B 29 1 v M.length (M.map St)) (hB : B ≤ w.heap.size) (hMl : M.length ≤ 900000) (hd : Tm.deep t ≠ 0) :
    Calls Tryz.prog 87 #[v, St t] w fun e w' => ∃ v', e = .returned v' ∧ w'.ownsRow B 29 1 v' (addL M (partsR M t)).length ((addL M (partsR M t)).map St) ∧ Gw w w' v v' := by
  obtain ⟨ao0, kc0, rfl⟩ := own_shape hM
  have HPT := hid (dparts_any w ao0 kc0 M t (own_texts hM) (by omega) hd)
  have HPF := hid (partsR_few M t)
  have HOM := hid hM
  have HB := hid hB
  have HML := hid hMl
  clear hd hM hMl hB
  generalize partsR M t = ps at HPT HPF ⊢
  obtain ⟨K, hK⟩ : ∃ K, K = ps.length := ⟨_, rfl⟩
  have HKK := hid hK
  have hKb : K ≤ 32 := by rw [hK]; exact HPF.out
  rw [← hK] at HPT
  clear hK
  go_enter Tryz.func87, Tryz.ntmps87
  go_wp2_with fail
  refine HPT.out.mono ?_
  rintro e w1 ⟨ao, kc, rfl, htx, hb, hlo⟩
  have HTX := hid htx
  have HB1 := hid hb
  have HLO := hid hlo
  rw [HKK.out] at HTX
  clear htx hb hlo HPT
  go_wp2_with fail
  go_loopg [0, 6] K (fun gg s0 s6 wr => ∃ (i : Nat) (a1 : Option Addr) (n1 k1 : Nat), i ≤ K ∧ gg = K - i ∧ s0 = .slice a1 n1 k1 ∧ s6 = .int .i64 (i : Int) ∧ wr.ownsRow B 29 1 (.slice a1 n1 k1) (addL M (ps.take i)).length ((addL M (ps.take i)).map St) ∧ Gw w wr (.slice ao0 M.length kc0) (.slice a1 n1 k1) ∧ Texts wr (.slice ao ps.length kc) ps ∧ (∀ k, (Value.slice a1 n1 k1).ownBlock = some k → ∀ g o, ao = some ⟨g, o, none⟩ → k ≠ g))
  case atStart =>
    refine ⟨0, ao0, M.length, kc0, by omega, by omega, rfl, rfl, own_stays HOM.out (fun i e => HB1.out.block i (own_ge HOM.out e).2), Gw.of_below _ HB1.out, HTX.out, fun k hk g o e => ?_⟩
    have := (own_ge HOM.out hk).2
    have := HLO.out g o e
    omega
  case round =>
    obtain ⟨i, a1, n1, k1, hi, rfl, rfl, rfl, how, hgw, htx, hap⟩ := hrel
    have HOW := hid how
    have HGW := hid hgw
    have HT := hid htx
    have HAP := hid hap
    have hn1 : n1 = (addL M (ps.take i)).length := by
      obtain ⟨a', k', e⟩ := own_shape how
      cases e
      rfl
    subst hn1
    clear how hgw htx hap
    by_cases hil : i < K
    · have hi1 : (i : Int) < (K : Int) := by omega
      have hik : i < ps.length := by rw [← HKK.out]; exact hil
      obtain ⟨g, o, hao, hg, hc⟩ := HT.out.cells i hik
      subst hao
      have hlen : (addL M (ps.take i)).length ≤ 900040 := by
        have h1 := addL_len M (ps.take i)
        have h2 := HML.out
        have h3 := List.length_take_le i ps
        rw [List.length_take] at h1
        omega
      have HH := hid (has_any wr a1 k1 (addL M (ps.take i)) ps[i] (own_texts HOW.out) (by omega))
      have HST : Hid (addL M (ps.take (i + 1)) = if ps[i] ∈ addL M (ps.take i) then addL M (ps.take i) else addL M (ps.take i) ++ [ps[i]]) := hid (by rw [List.take_succ_eq_append_getElem hik, addL_snoc])
      generalize ps[i] = y at hc HH HST
      generalize addL M (ps.take i) = M1 at HH HST HOW HGW HAP hlen
      by_cases hin : y ∈ M1
      · rw [decide_eq_true hin] at HH
        rw [if_pos hin] at HST
        clear hin
        go_wp2_with (first | (go_at_call 65; refine HH.out.mono ?_; rintro e w3 ⟨rfl, hw3⟩; obtain rfl := hw3.symm))
        go_roundg (K - (i + 1))
        case measure => omega
        case rel => exact ⟨i + 1, a1, M1.length, k1, by omega, rfl, rfl, by go_num, by rw [HST.out]; exact HOW.out, HGW.out, HT.out, HAP.out⟩
      · rw [decide_eq_false hin] at HH
        rw [if_neg hin] at HST
        obtain ⟨a2, k2, w4, hrun, hown4, hg4⟩ := append_gw wr B (.slice a1 M1.length k1) M1 y HOW.out (by omega) (Nat.le_trans HB.out HGW.out.size)
        have HRUN := hid hrun
        have HO4 := hid hown4
        have HG4 := hid hg4
        clear hin hrun hown4 hg4
        go_wp2_with (first | (go_at_call 65; refine HH.out.mono ?_; rintro e w3 ⟨rfl, hw3⟩; obtain rfl := hw3.symm) | (at_builtin; refine wpList_append_run rfl (.tmp 23) (.tmp 28) 22 rfl (.slice a1 M1.length k1) (.slice (some ⟨wr.heap.size, 0, none⟩) 1 1) (.slice a2 (M1.length + 1) k2) w4 rfl rfl HRUN.out ?_))
        go_roundg (K - (i + 1))
        case measure => omega
        case rel =>
          refine ⟨i + 1, a2, M1.length + 1, k2, by omega, rfl, rfl, by go_num, by rw [HST.out]; exact HO4.out, HGW.out.trans HG4.out, HT.out.gw HG4.out (fun g' o' e e2 => HAP.out g' e2 g' o' e rfl), fun k hk g' o' e => ?_⟩
          rcases HG4.out.own k hk with e2 | e2
          · exact HAP.out k e2 g' o' e
          · cases e
            omega
    · have hi1 : ¬ (i : Int) < (K : Int) := by omega
      have HE : Hid (ps.take i = ps) := hid (List.take_of_length_le (by rw [← HKK.out]; omega))
      go_wp2_with fail
      go_ret
      refine ⟨_, rfl, ?_, HGW.out⟩
      have h := HOW.out
      rw [HE.out] at h
      show wr.ownsRow B 29 1 (.slice a1 (addL M (ps.take i)).length k1) _ _
      rw [HE.out]
      exact h
end Go.Proofs.YtfnnhekjeobicaaGreatDoor
