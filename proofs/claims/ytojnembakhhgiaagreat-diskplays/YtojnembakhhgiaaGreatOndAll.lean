import Derived.Test.YtojnembakhhgiaaGreatOnaAll
import Derived.Lib.SliceRun
/- Where the first write stands that is struck. -/
namespace Go.Proofs.YtojnembakhhgiaaGreat
open Go.RowKit

/-- where the first one stands; -1: nowhere -/
def fst (P : Dw → Bool) (ws : List Dw) : Int := if ws.any P then (ws.findIdx P : Int) else -1
set_option maxRecDepth 100000 in
set_option maxHeartbeats 4000000 in
theorem index_any (w : World) (F : List Nat) (xs : Nat) (P : Dw → Bool) (ov : Value) (ws : List Dw) (hrow : w.ownsRow 0 87 258 ov ws.length (wcs ws)) (hwg : ∀ x ∈ ws, x.pg.length = 256) (hA : Asks F w xs P) (hF : ∀ g ∈ F, g < w.heap.size) (hws : ws.length ≤ 1000000) :
    Calls Tryz.prog 77 #[ov, .func (.func 67) #[] #[.pointer (some ⟨xs, 0, none⟩)]] w fun e w' => e = .returned (.int .i64 (fst P ws)) ∧ Below w.heap.size w w' := by
  obtain ⟨ao, cap, rfl⟩ := row_shape hrow
  obtain ⟨n, hn⟩ : ∃ n, n = ws.length := ⟨_, rfl⟩
  obtain ⟨ov, hov⟩ : ∃ ov, ov = Value.slice ao ws.length cap := ⟨_, rfl⟩
  rw [← hov] at hrow
  have HOV : Hid (ov = .slice ao n cap) := hid (by rw [hov, hn])
  rw [← hn]
  have HOP := hid hrow
  have HWG := hid hwg
  have HA := hid hA
  have HF := hid hF
  have HN := hid hn
  have HNB : Hid (n ≤ 1000000) := hid (by omega)
  have eg := eg61
  have hnb : (n : Int) ≤ 1000000 := by omega
  clear hrow hwg hA hF hn hov hws
  go_enter Tryz.func77, Tryz.ntmps77
  go_wp2_with fail
  go_loopg [8] ws.length (fun gg vj wr => ∃ j : Nat, gg = ws.length - j ∧ j ≤ ws.length ∧ vj = .int .i64 (j : Int) ∧ (∀ x ∈ ws.take j, P x = false) ∧ Below w.heap.size w wr)
  case atStart => exact ⟨0, rfl, Nat.zero_le _, rfl, fun x hx => (by simp at hx), Below.refl _ _⟩
  case round =>
    obtain ⟨j, rfl, hj, rfl, hno, hbel⟩ := hrel
    by_cases hjl : j < ws.length
    · have HJ := hid hjl
      obtain ⟨x, hx⟩ : ∃ x, x = ws[j] := ⟨_, rfl⟩
      have HX := hid hx
      have hxw : x.pg.length = 256 := by rw [hx]; exact HWG.out _ (List.getElem_mem hjl)
      have hrow : wr.ownsRow 0 87 258 ov ws.length (wcs ws) := ownsRow_same HOP.out (fun g hg => hbel.block g (HOP.out.lt g hg).2)
      obtain ⟨g, cap', hg1, hra0⟩ := write_at hrow HWG.out j hjl
      obtain ⟨cs, hcs⟩ : ∃ cs, cs = wc x := ⟨_, rfl⟩
      have hra : wr.rangeAt g (j * 258) cs := by rw [hcs, hx]; exact hra0
      clear hra0
      have hao2 : ao = some ⟨g, 0, none⟩ := by
        have h1 := HOV.out
        rw [hg1] at h1
        cases h1
        rfl
      subst hao2
      have hcl : cs.length = 258 := by rw [hcs, wc_len hxw]
      have HQ := hid (HA.out wr (fun g hg => hbel.block g (HF.out g hg)) x hxw)
      rw [← hcs] at HQ
      have hu1 := Tryz.underlying87
      have hi1 : (Tryz.prog.info? 87).map (·.size) = some cs.length := by rw [size81, hcl]
      have hjw : IntKind.i64.wrap ((j : Int) + 1) = ((j + 1 : Nat) : Int) := by rw [IntKind.wrap_i64]; have := HNB.out; have := HN.out; omega
      have hj0 : (0 : Int) ≤ (j : Int) := Int.natCast_nonneg _
      have hj1 : (j : Int) < (n : Int) := by have := HN.out; omega
      have HNO := hid hno
      have HBE := hid hbel
      have hpx : P ws[j] = P x := by rw [hx]
      have HPX := hid hpx
      clear hrow hg1 hcs hxw hx hno hbel hj hpx
      cases hP : P x with
      | false =>
        rw [hP] at HQ
        have HP := hid hP
        clear hP hjl
        go_wp2_with fail
        refine wp_load_mid 87 (.tmp 14) rfl g (j * 258) rfl cs _ hra hu1 rfl hi1 ?_
        go_wp2_with fail
        refine HQ.out.mono ?_
        rintro e w1 ⟨rfl, hb⟩
        have HB1 := hid hb
        clear hb
        go_wp2_with fail
        go_roundg (ws.length - (j + 1))
        case measure => have := HJ.out; omega
        case rel =>
          refine ⟨j + 1, rfl, HJ.out, rfl, fun y hy => ?_, below_comp HBE.out HB1.out⟩
          rw [List.take_add_one, List.getElem?_eq_getElem HJ.out] at hy
          rcases List.mem_append.1 hy with h | h
          · exact HNO.out y h
          · have : y = ws[j]'HJ.out := by simpa using h
            rw [this]
            exact HPX.out.trans HP.out
      | true =>
        rw [hP] at HQ
        have HE : Hid (fst P ws = (j : Int)) := hid (by
          have h1 : P ws[j] = true := by rw [HPX.out, hP]
          have h2 : ws.any P = true := List.any_eq_true.2 ⟨_, List.getElem_mem hjl, h1⟩
          have h3 : ws.findIdx P = j := by
            rw [List.findIdx_eq hjl]
            refine ⟨h1, fun k hk => ?_⟩
            exact HNO.out _ (by rw [List.mem_take_iff_getElem]; exact ⟨k, by omega, rfl⟩)
          unfold fst
          rw [if_pos h2, h3])
        clear hP hjl
        go_wp2_with fail
        refine wp_load_mid 87 (.tmp 14) rfl g (j * 258) rfl cs _ hra hu1 rfl hi1 ?_
        go_wp2_with fail
        refine HQ.out.mono ?_
        rintro e w1 ⟨rfl, hb⟩
        have HB1 := hid hb
        clear hb
        go_wp2_with fail
        go_ret
        exact ⟨by rw [HE.out]; rfl, below_comp HBE.out HB1.out⟩
    · have hje : j = ws.length := by omega
      subst hje
      have HE : Hid (fst P ws = -1) := hid (by
        unfold fst
        rw [if_neg (by
          rw [List.any_eq_true]
          rintro ⟨x, hx, hp⟩
          rw [List.take_length] at hno
          rw [hno x hx] at hp
          cases hp)])
      have hjn : ¬ ((ws.length : Nat) : Int) < (n : Int) := by have := HN.out; omega
      have HBE := hid hbel
      clear hno hbel hj hjl
      go_wp2_with fail
      go_ret
      exact ⟨by rw [HE.out]; rfl, HBE.out⟩
end Go.Proofs.YtojnembakhhgiaaGreat

/- Writes put in their places, and cleared. -/
namespace Go.Proofs.YtojnembakhhgiaaGreat
open Go.RowKit

theorem wcs_len : ∀ {l : List Dw}, (∀ q ∈ l, q.pg.length = 256) → (wcs l).length = l.length * 258
  | [], _ => rfl
  | p :: l, h => by
    rw [wcs_cons, List.length_append, wc_len (h p (by simp)), wcs_len (l := l) (fun q hq => h q (by simp [hq])), List.length_cons]
    omega
theorem write_set {w : World} {g cap : Nat} {T : List Dw} (h : w.ownsRow 0 87 258 (.slice (some ⟨g, 0, none⟩) T.length cap) T.length (wcs T)) (hT : ∀ x ∈ T, x.pg.length = 256) (k : Nat) (hk : k < T.length) (q : Dw) (hq : q.pg.length = 256) :
    w.there g (k * 258) 258 ∧ (w.setCells g (k * 258) (wc q)).ownsRow 0 87 258 (.slice (some ⟨g, 0, none⟩) T.length cap) T.length (wcs (T.set k q)) := by
  rcases h.2 with ⟨h1, h2⟩ | ⟨g', cap', cur, h1, h2, h3, h4, h5, h6, h7⟩
  · omega
  · cases h1
    have hsz : k * 258 + 258 ≤ cur.size := by rw [h6]; omega
    have hA : (wcs (T.take k)).length = k * 258 := by
      rw [wcs_len (fun x hx => hT x (List.mem_of_mem_take hx)), List.length_take]
      congr 1
      omega
    have hS : T = T.take k ++ T[k] :: T.drop (k + 1) := by rw [List.getElem_cons_drop, List.take_append_drop]
    have hB : (wc T[k]).length = 258 := wc_len (hT _ (List.getElem_mem hk))
    have hX : wcs T = wcs (T.take k) ++ (wc T[k] ++ wcs (T.drop (k + 1))) := by
      conv => lhs; rw [hS]
      rw [wcs_app, wcs_cons]
    obtain ⟨A, eA⟩ : ∃ A, A = wcs (T.take k) := ⟨_, rfl⟩
    obtain ⟨B, eB⟩ : ∃ B, B = wc T[k] := ⟨_, rfl⟩
    obtain ⟨D, eD⟩ : ∃ D, D = wcs (T.drop (k + 1)) := ⟨_, rfl⟩
    have hXl : (wcs T).length = T.length * 258 := h.1
    rw [← eA, ← eB, ← eD] at hX
    rw [← eA] at hA
    rw [← eB] at hB
    obtain ⟨R, eR⟩ : ∃ R, R = cur.toList.drop (T.length * 258) := ⟨_, rfl⟩
    have hcur : cur.toList = A ++ (B ++ (D ++ R)) := by
      rw [← List.take_append_drop (T.length * 258) cur.toList, h7, hX, ← eR, List.append_assoc, List.append_assoc]
    have hY : wcs (T.set k q) = A ++ (wc q ++ D) := by
      rw [List.set_eq_take_append_cons_drop, if_pos hk, wcs_app, wcs_cons, eA, eD]
    have hl : (A ++ (wc q ++ D)).length = T.length * 258 := by
      rw [← hXl, hX, List.length_append, List.length_append, List.length_append, List.length_append, wc_len hq, hB]
    refine ⟨there_blk h3 hsz, by rw [hY]; exact hl, .inr ⟨g, cap, _, rfl, Nat.zero_le _, heap_cells (wc q) w g (k * 258) cur 87 h3 (by rw [wc_len hq]; exact hsz), h4, h5, ?_, ?_⟩⟩
    · rw [List.size_toArray, List.length_append, List.length_append, List.length_take, List.length_drop, Array.length_toList, wc_len hq, ← h6]
      omega
    · show List.take (T.length * 258) (cur.toList.take (k * 258) ++ wc q ++ cur.toList.drop (k * 258 + (wc q).length)) = _
      rw [hcur, List.take_left' hA, wc_len hq, hY, ← List.append_assoc A B, List.drop_left' (by rw [List.length_append, hA, hB]), List.append_assoc, ← List.append_assoc (wc q), ← List.append_assoc A, List.take_left' hl]
theorem zero81_one : Tryz.zeroCells87.all (·.oneCell') = true := by kernel_rfl
theorem zrow_len (n : Nat) : (Builtin.zeroCells Tryz.zeroCells87 n).toList.length = n * 258 := by
  rw [Array.length_toList]
  unfold Builtin.zeroCells
  rw [Array.size_map, Array.size_range, zero81]
theorem zrow_one (n : Nat) : ∀ v ∈ (Builtin.zeroCells Tryz.zeroCells87 n).toList, v.oneCell' = true := fun v hv => by
  obtain ⟨i, _, rfl⟩ := Array.mem_map.1 (Array.mem_toList_iff.1 hv)
  have hlt : i % Tryz.zeroCells87.size < Tryz.zeroCells87.size := Nat.mod_lt _ (by rw [zero81]; omega)
  rw [getElem!_pos Tryz.zeroCells87 _ hlt]
  exact Array.all_eq_true'.1 zero81_one _ (Array.getElem_mem hlt)
theorem clear_run {w : World} {g cap : Nat} {T : List Dw} (h : w.ownsRow 0 87 258 (.slice (some ⟨g, 0, none⟩) T.length cap) T.length (wcs T)) (hT : ∀ x ∈ T, x.pg.length = 256) (k : Nat) (hk : k < T.length) :
    ∃ w', (∀ ty c, (Builtin.clear_ #[75] ty #[.slice (some ⟨g, k * 258, none⟩) (T.length - k) c]).run Tryz.prog w = .ok (.tuple #[]) w') ∧ w'.ownsRow 0 87 258 (.slice (some ⟨g, 0, none⟩) k cap) k (wcs (T.take k)) ∧ Kf [g] w w' := by
  rcases h.2 with ⟨h1, h2⟩ | ⟨g', cap', cur, h1, h2, h3, h4, h5, h6, h7⟩
  · omega
  · cases h1
    obtain ⟨n, hn⟩ : ∃ n, n = T.length - k - 1 := ⟨_, rfl⟩
    have hn1 : T.length - k = n + 1 := by omega
    have hz := zero81_run
    have hVl := zrow_len (n + 1)
    have hV1 := zrow_one (n + 1)
    have hzc : (Value.agg Tryz.zeroCells87).cells = Tryz.zeroCells87 := rfl
    generalize Tryz.zeroCells87 = Z at hz hVl hV1 hzc
    obtain ⟨V, hV⟩ : ∃ V, V = (Builtin.zeroCells Z (n + 1)).toList := ⟨_, rfl⟩
    rw [← hV] at hVl hV1
    have hsz : k * 258 + V.length ≤ cur.size := by rw [hVl, h6]; omega
    have hst := store_cells h3 hsz hV1
    have hA : (wcs (T.take k)).length = k * 258 := by
      rw [wcs_len (fun x hx => hT x (List.mem_of_mem_take hx)), List.length_take]
      congr 1
      omega
    have hX : wcs T = wcs (T.take k) ++ wcs (T.drop k) := by rw [← wcs_app, List.take_append_drop]
    refine ⟨_, fun ty c => ?_, ⟨hA, .inr ⟨g, cap, _, rfl, Nat.zero_le _, heap_cells _ w g (k * 258) cur 87 h3 hsz, by omega, h5, ?_, ?_⟩⟩, kf_cells _ _ _ _⟩
    · rw [hn1]
      simp only [Builtin.clear_, List.getElem?_toArray, List.getElem?_cons_zero, Sem.run_bind, run_underlying Tryz.underlying75, Result.andThen_ok, hz, hzc, ← hV, hst, Sem.run_pure]
    · rw [List.size_toArray, List.length_append, List.length_append, List.length_take, List.length_drop, Array.length_toList, ← h6]
      omega
    · show List.take (k * 258) (cur.toList.take (k * 258) ++ V ++ cur.toList.drop (k * 258 + V.length)) = _
      rw [List.append_assoc, List.take_append_of_le_length (by rw [List.length_take, Array.length_toList, h6]; exact Nat.le_min.2 ⟨Nat.le_refl _, Nat.mul_le_mul_right 258 (Nat.le_trans (Nat.le_of_lt hk) h4)⟩), List.take_take, Nat.min_self]
      have h8 : cur.toList.take (k * 258) = (cur.toList.take (T.length * 258)).take (k * 258) := by
        rw [List.take_take, Nat.min_eq_left (Nat.mul_le_mul_right 258 (Nat.le_of_lt hk))]
      rw [h8, h7, hX, List.take_left' hA]
end Go.Proofs.YtojnembakhhgiaaGreat

/- DeleteFunc: writes are struck out of their row. -/
namespace Go.Proofs.YtojnembakhhgiaaGreat
open Go.RowKit

/-- where DeleteFunc stands: i have been kept of the first j -/
structure Ld (w : World) (P : Dw → Bool) (ws : List Dw) (g cap i j : Nat) (Z : List Dw) (wr : World) : Prop where
  len : Z.length = ws.length
  pg : ∀ x ∈ Z, x.pg.length = 256
  lt : i < j
  le : j ≤ ws.length
  kept : Z.take i = (ws.take j).filter fun x => !P x
  rest : Z.drop j = ws.drop j
  row : wr.ownsRow 0 87 258 (.slice (some ⟨g, 0, none⟩) ws.length cap) ws.length (wcs Z)
  kf : Kf [g] w wr
theorem Ld.low {w : World} {P : Dw → Bool} {ws : List Dw} {g cap i j : Nat} {Z : List Dw} {wr w1 : World} (h : Ld w P ws g cap i j Z wr) (hb : Below wr.heap.size wr w1) : Ld w P ws g cap i j Z w1 :=
  ⟨h.len, h.pg, h.lt, h.le, h.kept, h.rest, ownsRow_same h.row (fun k hk => hb.block k (h.row.lt k hk).2), h.kf.trans (below_kf (F := []) hb) (fun _ hg => (by cases hg))⟩
theorem Ld.at' {w : World} {P : Dw → Bool} {ws : List Dw} {g cap i j : Nat} {Z : List Dw} {wr : World} (h : Ld w P ws g cap i j Z wr) (hj : j < ws.length) : ∃ hz : j < Z.length, Z[j] = ws[j] := by
  have hz : j < Z.length := by rw [h.len]; exact hj
  refine ⟨hz, ?_⟩
  have := congrArg (fun l => l[0]?) h.rest
  simp only [List.getElem?_drop, Nat.add_zero] at this
  rw [List.getElem?_eq_getElem hz, List.getElem?_eq_getElem hj] at this
  exact Option.some.inj this
theorem Ld.skip {w : World} {P : Dw → Bool} {ws : List Dw} {g cap i j : Nat} {Z : List Dw} {wr : World} (h : Ld w P ws g cap i j Z wr) (hj : j < ws.length) (hP : P ws[j] = true) : Ld w P ws g cap i (j + 1) Z wr := by
  refine ⟨h.len, h.pg, Nat.lt_succ_of_lt h.lt, hj, ?_, ?_, h.row, h.kf⟩
  · rw [h.kept, List.take_add_one, List.getElem?_eq_getElem hj, List.filter_append]
    simp [hP]
  · rw [← List.drop_drop, ← List.drop_drop, h.rest]
theorem Ld.keep {w : World} {P : Dw → Bool} {ws : List Dw} {g cap i j : Nat} {Z : List Dw} {wr : World} (h : Ld w P ws g cap i j Z wr) (hj : j < ws.length) (hP : P ws[j] = false) (hq : ws[j].pg.length = 256) :
    wr.there g (i * 258) 258 ∧ Ld w P ws g cap (i + 1) (j + 1) (Z.set i ws[j]) (wr.setCells g (i * 258) (wc ws[j])) := by
  have hi : i < Z.length := by have := h.lt; rw [h.len]; omega
  have hrow : wr.ownsRow 0 87 258 (.slice (some ⟨g, 0, none⟩) Z.length cap) Z.length (wcs Z) := by rw [h.len]; exact h.row
  obtain ⟨h1, h2⟩ := write_set hrow h.pg i hi ws[j] hq
  refine ⟨h1, by rw [List.length_set]; exact h.len, fun x hx => ?_, Nat.succ_lt_succ h.lt, hj, ?_, ?_, by rw [h.len] at h2; exact h2, h.kf.trans (kf_cells _ _ _ _) (fun k hk => .inl hk)⟩
  · rcases List.mem_or_eq_of_mem_set hx with hx | hx
    · exact h.pg x hx
    · rw [hx]; exact hq
  · rw [List.take_add_one, List.take_set_of_le (Nat.le_refl i), h.kept, List.take_add_one, List.getElem?_eq_getElem hj, List.filter_append]
    simp [hP, hi]
  · rw [List.drop_set_of_lt (by have := h.lt; omega), ← List.drop_drop, ← List.drop_drop, h.rest]
theorem filter_none {P : Dw → Bool} {ws : List Dw} (h : ws.any P = false) : (ws.filter fun x => !P x) = ws := by
  rw [List.filter_eq_self]
  intro x hx
  have := List.any_eq_false.1 h x hx
  simpa using this
theorem Ld.start {w w1 : World} {P : Dw → Bool} {ws : List Dw} {g cap : Nat} (h : w.ownsRow 0 87 258 (.slice (some ⟨g, 0, none⟩) ws.length cap) ws.length (wcs ws)) (hwg : ∀ x ∈ ws, x.pg.length = 256) (ha : ws.any P = true) (hb : Below w.heap.size w w1) : Ld w P ws g cap (ws.findIdx P) (ws.findIdx P + 1) ws w1 := by
  have hlt : ws.findIdx P < ws.length := List.findIdx_lt_length.2 (List.any_eq_true.1 ha)
  refine ⟨rfl, hwg, Nat.lt_succ_self _, hlt, ?_, rfl, ownsRow_same h (fun k hk => hb.block k (h.lt k hk).2), below_kf hb⟩
  rw [List.take_add_one, List.getElem?_eq_getElem hlt, List.filter_append]
  have h1 : P ws[ws.findIdx P] = true := List.findIdx_getElem
  have h2 : ((ws.take (ws.findIdx P)).filter fun x => !P x) = ws.take (ws.findIdx P) := by
    rw [List.filter_eq_self]
    intro x hx
    obtain ⟨k, hk, rfl⟩ := List.mem_take_iff_getElem.1 hx
    have := List.not_of_lt_findIdx (p := P) (xs := ws) (show k < ws.findIdx P by omega)
    simpa using this
  rw [h2]
  simp [h1]
end Go.Proofs.YtojnembakhhgiaaGreat
