/- A byte behind a row of one's own. -/
import Derived.Test.YtelfogdcijmenaaDoorCat
namespace Go.Proofs.YtelfogdcijmenaaDoor
open Go.RowKit

theorem append_bytes_at {w : World} {base : Nat} {v : Value} {a : Addr} {cap : Nat} {xs l : Bs} (hown : w.ownsRow base 5 1 v xs.length (bcs xs)) (hc : ∀ i (h : i < l.length), w.cell? (a.add i) = some (By l[i])) (hb : xs.length + l.length ≤ 140737488355328) (hbase : base ≤ w.heap.size) :
    ∃ ao c w', (∀ ty, (Builtin.append_ #[22, 22] ty #[v, .slice (some a) l.length cap]).run Tryd.prog w = .ok (.slice ao (xs ++ l).length c) w') ∧ w'.ownsRow base 5 1 (.slice ao (xs ++ l).length c) (xs ++ l).length (bcs (xs ++ l)) ∧ w.grownBy w' v.ownBlock ∧ ((Value.slice ao (xs ++ l).length c).ownBlock = v.ownBlock ∨ (Value.slice ao (xs ++ l).length c).ownBlock = some w.heap.size) := by
  obtain ⟨i0, hi, hz0, hz1, hz2⟩ := info_get Tryd.info5
  obtain ⟨v', w', h4, h5, h6, _, h7⟩ := run_append_own_at (P := Tryd.prog) w base 22 22 5 i0 _ 1 1 Tryd.underlying22 hi hz0 hz1 hz2 rfl (by decide) v xs.length (bcs xs) hown a l.length cap (bcs l) (by rw [bcs_len]; omega)
    (fun j u hj => by
      have hjl : j < l.length := by
        apply Classical.byContradiction
        intro hn
        rw [List.getElem?_eq_none (by rw [bcs_len]; omega)] at hj
        cases hj
      rw [bcs_get hjl] at hj
      cases hj
      exact hc j hjl)
    (fun u hu => by simp [Lib.byteCells] at hu; obtain ⟨_, _, rfl⟩ := hu; rfl) (by unfold maxLen; omega) (by omega) hbase
  rw [bcs_app, ← List.length_append] at h5
  have hv : ∃ ao cap, v' = .slice ao (xs ++ l).length cap := by
    rcases h5.2 with ⟨h1, h2⟩ | ⟨g, cap, _, h1, _⟩
    · rw [h2]; exact ⟨_, _, h1⟩
    · exact ⟨_, _, h1⟩
  obtain ⟨ao, cap', rfl⟩ := hv
  exact ⟨ao, cap', w', fun ty => h4, h5, h6, h7⟩
/-- a byte that was just laid is put behind a row of one's own -/
theorem append_one {w : World} {base n : Nat} {v : Value} {xs : Bs} (hown : w.ownsRow base 5 1 v n (bcs xs)) (c : UInt8) (x : Int) (hx : (c.toNat : Int) = x) (hn : n = xs.length) (hb : n + 1 ≤ 140737488355328) (hbase : base ≤ w.heap.size) :
    ∃ ao cap w', (∀ ty, (Builtin.append_ #[22, 22] ty #[v, .slice (some ⟨w.heap.size, 0, none⟩) 1 1]).run Tryd.prog (w.alloc (.cells #[.int .u8 x] 5)) = .ok (.slice ao (n + 1) cap) w') ∧ w'.ownsRow base 5 1 (.slice ao (n + 1) cap) (n + 1) (bcs (xs ++ [c])) ∧ (w.alloc (.cells #[.int .u8 x] 5)).grownBy w' v.ownBlock ∧ ((Value.slice ao (n + 1) cap).ownBlock = v.ownBlock ∨ (Value.slice ao (n + 1) cap).ownBlock = some (w.heap.size + 1)) := by
  subst hx
  subst hn
  have h1 := append_bytes_at (w := w.alloc (.cells #[By c] 5)) (a := ⟨w.heap.size, 0, none⟩) (cap := 1) (l := [c]) (hown.alloc _) (fun i hi => by
    have : i = 0 := by simpa using hi
    subst this
    rw [add_plain, cell_of_heap (heap_alloc_new w (.cells #[By c] 5))]
    rfl) (by simpa using hb) (by simp; omega)
  simpa using h1
/-- what comes of it for all that lay there -/
theorem one_below {B : Nat} {w0 w w' : World} {v : Value} {o : Obj} {n : Nat} {xs : List Value} (hb : Below B w0 w) (ho : w.ownsRow B 5 1 v n xs) (hg : (w.alloc o).grownBy w' v.ownBlock) (hB : B ≤ w.heap.size) : Below B w0 w' :=
  (hb.alloc hB o).grown hg (by simp; omega) (fun b h => (ho.lt b h).1)
theorem ownsRow_same {w w' : World} {base : Nat} {e : TypeId} {size : Nat} {v : Value} {n : Nat} {xs : List Value} (h : w.ownsRow base e size v n xs) (hh : ∀ g, v.ownBlock = some g → w'.heap[g]? = w.heap[g]?) : w'.ownsRow base e size v n xs := by
  obtain ⟨h1, h2⟩ := h
  refine ⟨h1, ?_⟩
  rcases h2 with h2 | ⟨g, cap, cur, e1, e2, e3, e4⟩
  · exact Or.inl h2
  · exact Or.inr ⟨g, cap, cur, e1, e2, by rw [hh g (by rw [e1]; rfl)]; exact e3, e4⟩
theorem own_mono {w : World} {B B' : Nat} {e : TypeId} {k : Nat} {v : Value} {n : Nat} {xs : List Value} (h : w.ownsRow B e k v n xs) (hB : B' ≤ B) : w.ownsRow B' e k v n xs := by
  obtain ⟨h1, h2⟩ := h
  refine ⟨h1, ?_⟩
  rcases h2 with h2 | ⟨g, cap, cur, e1, e2, e3⟩
  · exact Or.inl h2
  · exact Or.inr ⟨g, cap, cur, e1, Nat.le_trans hB e2, e3⟩
/-- another row of one's own stays -/
theorem one_other {B : Nat} {w w' : World} {v u : Value} {o : Obj} {n : Nat} {xs : List Value} (hg : (w.alloc o).grownBy w' v.ownBlock) (hu : w.ownsRow B 5 1 u n xs) (hd : ∀ b, v.ownBlock = some b → u.ownBlock ≠ some b) : w'.ownsRow B 5 1 u n xs :=
  ownsRow_same hu (fun g e => by
    have hlt := (hu.lt g e).2
    rw [hg.block g (by simp; omega) (fun h => hd g h.symm e)]
    exact Below.heap_alloc w o g hlt)
theorem hiC_int (c : UInt8) : ((hiC c).toNat : Int) = (c.toNat : Int) / 32 := by
  unfold hiC
  have := c.toNat_lt
  rw [UInt8.toNat_ofNat']
  omega
theorem and31 (c : UInt8) : bits .and .u8 (c.toNat : Int) 31 = (c.toNat : Int) % 32 := by
  have : ∀ n : Fin 256, bits .and .u8 (n.val : Int) 31 = (n.val : Int) % 32 := by decide +kernel
  exact this ⟨c.toNat, c.toNat_lt⟩
theorem loC_int (c : UInt8) : ((loC c).toNat : Int) = (c.toNat : Int) % 32 := by
  unfold loC
  have := c.toNat_lt
  rw [UInt8.toNat_ofNat']
  omega
theorem map_take_succ (f : UInt8 → UInt8) (l : Bs) (k : Nat) (h : k < l.length) : (l.take (k + 1)).map f = (l.take k).map f ++ [f l[k]] := by
  have e : l.take (k + 1) = l.take k ++ [l[k]] := by rw [List.take_add_one, List.getElem?_eq_getElem h]; rfl
  rw [e, List.map_append]
  rfl
theorem head_len (h : Bs) : (headW h).length = 2 * h.length + 1 := by unfold headW; simp; omega
/-- three rows of bytes, in a row just laid -/
theorem sls3 (w : World) (a b c : Bs) (av bv cv : Value) (ha : Sl w av a) (hb : Sl w bv b) (hc : Sl w cv c) : Sls (w.alloc (.cells #[av, bv, cv] 22)) (.slice (some ⟨w.heap.size, 0, none⟩) 3 3) [a, b, c] := by
  have hbl := (Below.refl w.heap.size w).alloc (Nat.le_refl _) (.cells #[av, bv, cv] 22)
  have hn := heap_alloc_new w (.cells #[av, bv, cv] 22)
  refine ⟨w.heap.size, 3, rfl, Nat.le_refl _, by simp, fun i hi => ?_⟩
  have hi' : i = 0 ∨ i = 1 ∨ i = 2 := by simp at hi; omega
  rw [cell_of_heap hn]
  rcases hi' with rfl | rfl | rfl
  · obtain ⟨ao, k, e⟩ := ha.shape
    exact ⟨ao, k, by rw [e]; rfl, (congrArg (fun q => Sl _ q a) e).mp (ha.below hbl)⟩
  · obtain ⟨ao, k, e⟩ := hb.shape
    exact ⟨ao, k, by rw [e]; rfl, (congrArg (fun q => Sl _ q b) e).mp (hb.below hbl)⟩
  · obtain ⟨ao, k, e⟩ := hc.shape
    exact ⟨ao, k, by rw [e]; rfl, (congrArg (fun q => Sl _ q c) e).mp (hc.below hbl)⟩
theorem sls2 (w : World) (a b : Bs) (av bv : Value) (ha : Sl w av a) (hb : Sl w bv b) : Sls (w.alloc (.cells #[av, bv] 22)) (.slice (some ⟨w.heap.size, 0, none⟩) 2 2) [a, b] := by
  have hbl := (Below.refl w.heap.size w).alloc (Nat.le_refl _) (.cells #[av, bv] 22)
  have hn := heap_alloc_new w (.cells #[av, bv] 22)
  refine ⟨w.heap.size, 2, rfl, Nat.le_refl _, by simp, fun i hi => ?_⟩
  have hi' : i = 0 ∨ i = 1 := by simp at hi; omega
  rw [cell_of_heap hn]
  rcases hi' with rfl | rfl
  · obtain ⟨ao, k, e⟩ := ha.shape
    exact ⟨ao, k, by rw [e]; rfl, (congrArg (fun q => Sl _ q a) e).mp (ha.below hbl)⟩
  · obtain ⟨ao, k, e⟩ := hb.shape
    exact ⟨ao, k, by rw [e]; rfl, (congrArg (fun q => Sl _ q b) e).mp (hb.below hbl)⟩
theorem sl_one (w : World) (c : UInt8) : Sl (w.alloc (.cells #[By c] 5)) (.slice (some ⟨w.heap.size, 0, none⟩) 1 1) [c] := by
  refine Or.inr ⟨_, _, rfl, Nat.le_refl _, fun _ => ⟨rfl, by simp⟩, fun i hi => ?_⟩
  have : i = 0 := by simpa using hi
  subst this
  rw [add_plain, cell_of_heap (heap_alloc_new w (.cells #[By c] 5))]
  rfl
set_option maxRecDepth 100000 in
set_option maxHeartbeats 1000000 in
theorem hw_any (h : Bs) (w : World) (hm : h.length ≤ 1000000) : Calls Tryd.prog 42 #[St h] w fun e w' => ∃ ao cap, e = .returned (.slice ao (headW h).length cap) ∧ w'.ownsRow w.heap.size 5 1 (.slice ao (headW h).length cap) (headW h).length (bcs (headW h)) ∧ Below w.heap.size w w' := by
  have hs := st_size h
  obtain ⟨n, hn⟩ : ∃ n, n = h.length := ⟨_, rfl⟩
  rw [← hn] at hs hm
  have HN := hid hn
  obtain ⟨hl, hhl⟩ : ∃ k, k = (headW h).length := ⟨_, rfl⟩
  rw [← hhl]
  have HHL := hid hhl
  clear hn hhl
  go_enter Tryd.func42, Tryd.ntmps42
  go_wp2_with fail
  go_loopg [3, 4, 5, 8] n (fun gg v3 v4 v5 v8 wr => ∃ (i : Nat) (a3 a4 : Option Addr) (c3 c4 : Nat), i ≤ n ∧ gg = n - i ∧ v8 = .int .i64 (i : Int) ∧ v3 = .slice a3 i c3 ∧ v4 = .slice a4 i c4 ∧
    wr.ownsRow w.heap.size 5 1 (.slice a3 i c3) i (bcs ((h.take i).map hiC)) ∧ wr.ownsRow w.heap.size 5 1 (.slice a4 i c4) i (bcs ((h.take i).map loC)) ∧ (∀ b, (Value.slice a3 i c3).ownBlock = some b → (Value.slice a4 i c4).ownBlock ≠ some b) ∧ Below w.heap.size w wr)
  case atStart => exact ⟨0, none, none, 0, 0, by omega, by omega, rfl, rfl, rfl, own_none _ _, own_none _ _, fun b hb => by (cases hb), Below.refl _ _⟩
  case round =>
    obtain ⟨i, a3, a4, c3, c4, hi, rfl, rfl, rfl, rfl, ho3, ho4, hd, hbel⟩ := hrel
    by_cases hin : i < n
    · have hi1 : (i : Int) < (n : Int) := by omega
      have hih : i < h.length := by rw [← HN.out]; exact hin
      have HMH := hid (map_take_succ hiC h i hih)
      have HML := hid (map_take_succ loC h i hih)
      have hget : (⟨h.toArray⟩ : ByteArray)[i]'(by rw [hs]; exact hin) = h[i] := rfl
      generalize h[i] = x at *
      have hand := and31 x
      have hil : ∀ f : UInt8 → UInt8, i = ((h.take i).map f).length := fun f => by simp; omega
      obtain ⟨a5, c5, w5, hr5, ho5, hg5, hp5⟩ := append_one ho3 (hiC x) _ (hiC_int x) (hil hiC) (by omega) hbel.size
      have hb5 := one_below hbel ho3 hg5 hbel.size
      have ho45 := one_other hg5 ho4 hd
      obtain ⟨a6, c6, w6, hr6, ho6, hg6, hp6⟩ := append_one ho45 (loC x) _ (loC_int x) (hil loC) (by omega) hb5.size
      have HD : Hid (∀ b, (Value.slice a5 (i + 1) c5).ownBlock = some b → (Value.slice a6 (i + 1) c6).ownBlock ≠ some b) := hid (by
        intro b hb1 hb2
        have h5 := (ho5.lt b hb1).2
        rcases hp6 with e | e
        · rw [e] at hb2
          rcases hp5 with e' | e'
          · rw [e'] at hb1
            exact hd b hb1 hb2
          · rw [e'] at hb1
            cases hb1
            have := (ho4.lt _ hb2).2
            omega
        · rw [e] at hb2
          cases hb2
          omega)
      have HB6 := hid (one_below hb5 ho45 hg6 hb5.size)
      have HO5 := hid (one_other hg6 ho5 (fun b hb1 hb2 => by
        rcases hp5 with e' | e'
        · rw [e'] at hb2
          exact hd b hb2 hb1
        · rw [e'] at hb2
          cases hb2
          have := (ho4.lt _ hb1).2
          omega))
      have HO6 := hid ho6
      have HR5 := hid hr5
      have HR6 := hid hr6
      clear ho3 ho4 hd hbel hr5 ho5 hg5 hp5 hb5 ho45 hr6 ho6 hg6 hp6 hil
      go_wp2_with (first | (at_builtin; refine wpList_append_run rfl _ _ 22 rfl _ _ (.slice a5 (i + 1) c5) w5 rfl rfl HR5.out ?_) | (at_builtin; refine wpList_append_run rfl _ _ 22 rfl _ _ (.slice a6 (i + 1) c6) w6 rfl rfl HR6.out ?_) | fail)
      go_roundg (n - (i + 1))
      case measure => omega
      case rel => exact ⟨i + 1, a5, a6, c5, c6, by omega, rfl, by go_num, rfl, rfl, by rw [HMH.out]; exact HO5.out, by rw [HML.out]; exact HO6.out, HD.out, HB6.out⟩
    · have hi1 : ¬ (i : Int) < (n : Int) := by omega
      have hin' : i = n := by omega
      subst hin'
      have HTK : Hid (h.take i = h) := hid (List.take_of_length_le (by rw [← HN.out]; omega))
      rw [HTK.out] at ho3 ho4
      have hs3 := Sl.own ho3 (by simp [← HN.out])
      have hs4 := Sl.own ho4 (by simp [← HN.out])
      have hb1 := (Below.refl wr.heap.size wr).alloc (Nat.le_refl _) (.cells #[By 0] 5)
      have hsz : (wr.alloc (.cells #[By 0] 5)).heap.size = wr.heap.size + 1 := by simp
      have hs9 := sls3 _ _ _ _ _ _ _ (hs3.below hb1) (sl_one wr 0) (hs4.below hb1)
      rw [hsz] at hs9
      have HS : Hid (Sls ((wr.alloc (.cells #[.int .u8 0] 5)).alloc (.cells #[.slice a3 i c3, .slice (some ⟨wr.heap.size, 0, none⟩) 1 1, .slice a4 i c4] 22)) (.slice (some ⟨wr.heap.size + 1, 0, none⟩) 3 3) [h.map hiC, [0], h.map loC]) := hid hs9
      have HB2 := hid ((hbel.alloc hbel.size (.cells #[.int .u8 0] 5)).alloc (by simp; have := hbel.size; omega) (.cells #[.slice a3 i c3, .slice (some ⟨wr.heap.size, 0, none⟩) 1 1, .slice a4 i c4] 22))
      have HH : Hid (headW h = [h.map hiC, [0], h.map loC].flatten) := hid (by unfold headW; simp)
      clear ho3 ho4 hd hbel hs3 hs4 hb1 hs9 hsz
      go_wp2_with fail
      refine (cat_any _ _ _ HS.out (by rw [← HH.out, head_len, ← HN.out]; omega) (by simp)).mono ?_
      rintro e w2 ⟨a2, c2, rfl, ho2, hb2⟩
      rw [← HH.out, ← HHL.out] at ho2 ⊢
      have HO2 := hid ho2
      have HBB := hid hb2
      clear ho2 hb2
      go_wp2_with fail
      go_ret
      exact ⟨a2, c2, rfl, own_mono HO2.out HB2.out.size, HB2.out.trans (HBB.out.mono HB2.out.size)⟩
end Go.Proofs.YtelfogdcijmenaaDoor
