/- What take notes, as a function; its bounds. -/
import Derived.Test.YtfnnhekjeobicaaTake
namespace Go.Proofs.Ytfnnhekjeobicaa

/-- what take notes -/
def takeF : Nat → NM × List Bs → Bs → NM × List Bs
  | 0, s, _ => s
  | n + 1, s, t =>
    if (nget s.1 t).held = true then s
    else if t.head? = some 84 then (Tm.kidsOf 63 t).foldl (takeF n) (nput s.1 t ⟨(nget s.1 t).heard, true, (nget s.1 t).key⟩, s.2 ++ [t])
    else if t.head? = some 86 ∨ t.head? = some 75 then takeKeyF (nput s.1 t ⟨(nget s.1 t).heard, true, (nget s.1 t).key⟩, s.2 ++ [t]) t
    else if t.head? = some 66 then (nput s.1 t ⟨(nget s.1 t).heard, true, (Tm.kidsOf 63 t).headD []⟩, s.2 ++ [t])
    else (nput s.1 t ⟨(nget s.1 t).heard, true, (nget s.1 t).key⟩, s.2 ++ [t])

theorem takeKeyF_dom {N : NM} {l : List Bs} {U : List Bs} (hU : Uni U) (hD : Dom N U) {t : Bs} (ht : t ∈ U) (hh : t.head? = some 86 ∨ t.head? = some 75) : Dom (takeKeyF (N, l) t).1 U ∧ (takeKeyF (N, l) t).2.length ≤ l.length + 1 := by
  unfold takeKeyF
  split
  · exact ⟨hD, by simp⟩
  · rename_i h
    have h2 : (pubRes t).2 = 0 := Classical.byContradiction (fun e => h (Or.inr e))
    exact ⟨hD.put (hU.key t ht hh h2) nz, by simp⟩

theorem kidsN_sum (f : Bs → Option (Nat × Bs)) (hf : ∀ l d r, f l = some (d, r) → ∃ p, l = p ++ r ∧ p ≠ []) : ∀ (k : Nat) (l : Bs), ((Tm.kidsN f k l).map List.length).sum ≤ l.length
  | 0, _ => by simp [Tm.kidsN]
  | k + 1, l => by
    rw [Tm.kidsN]
    match hg : f l with
    | none => simp
    | some (d, r) =>
      obtain ⟨p, rfl, _⟩ := hf l d r hg
      have := kidsN_sum f hf k r
      simp only [List.map_cons, List.sum_cons, Tm.used_app, List.length_append]
      omega
theorem rd_front {n : Nat} : ∀ l d r, Tm.rd n l = some (d, r) → ∃ p, l = p ++ r ∧ p ≠ [] := by
  intro l d r h
  obtain ⟨p, e, _, hi⟩ := Tm.rd_good n _ _ _ h
  exact ⟨p, e, hi.2.1⟩
theorem kids_sum {t : Bs} (hh : t.head? = some 84) : ((Tm.kidsOf 63 t).map List.length).sum + 1 ≤ t.length := by
  match t, hh with
  | c :: l, hh =>
    simp at hh
    subst hh
    have e : Tm.kidsOf 63 (84 :: l) = Tm.tupleK (Tm.rd 63) l := rfl
    rw [e]
    unfold Tm.tupleK
    match hg : Tm.num 58 l with
    | none => simp
    | some (k, r) =>
      obtain ⟨p, hp, rfl, _⟩ := Tm.num_app hg
      have := kidsN_sum (Tm.rd 63) rd_front k r
      simp only [List.length_cons, List.length_append]
      omega

theorem fold_bound {U : List Bs} {n : Nat} (ih : ∀ (N : NM) (l : List Bs) (t : Bs), Dom N U → t ∈ U → Dom (takeF n (N, l) t).1 U ∧ (takeF n (N, l) t).2.length ≤ l.length + 2 * t.length) :
    ∀ (ks : List Bs) (N : NM) (l : List Bs), Dom N U → (∀ k ∈ ks, k ∈ U) → Dom (ks.foldl (takeF n) (N, l)).1 U ∧ (ks.foldl (takeF n) (N, l)).2.length ≤ l.length + 2 * (ks.map List.length).sum
  | [], N, l, hD, _ => ⟨hD, by simp⟩
  | k :: ks, N, l, hD, hk => by
    obtain ⟨h1, h2⟩ := ih N l k hD (hk k (by simp))
    obtain ⟨h3, h4⟩ := fold_bound ih ks (takeF n (N, l) k).1 (takeF n (N, l) k).2 h1 (fun x hx => hk x (by simp [hx]))
    simp only [List.foldl_cons, List.map_cons, List.sum_cons]
    exact ⟨h3, by rw [show takeF n (N, l) k = ((takeF n (N, l) k).1, (takeF n (N, l) k).2) from rfl]; omega⟩
theorem take_bound {U : List Bs} (hU : Uni U) : ∀ (n : Nat) (N : NM) (l : List Bs) (t : Bs), Dom N U → t ∈ U → Dom (takeF n (N, l) t).1 U ∧ (takeF n (N, l) t).2.length ≤ l.length + 2 * t.length
  | 0, N, l, t, hD, _ => ⟨hD, by simp [takeF]⟩
  | n + 1, N, l, t, hD, ht => by
    have hpos : 1 ≤ t.length := by
      cases t with | nil => exact absurd (by decide) (hU.right [] ht) | cons a b => simp
    rw [takeF]
    split
    · exact ⟨hD, by simp⟩
    · split
      · rename_i hh
        obtain ⟨h1, h2⟩ := fold_bound (take_bound hU n) (Tm.kidsOf 63 t) _ (l ++ [t]) (hD.put ht ⟨(nget N t).heard, true, (nget N t).key⟩) (hU.tup t ht hh)
        refine ⟨h1, Nat.le_trans h2 ?_⟩
        have := kids_sum hh
        simp
        omega
      · split
        · rename_i hh
          obtain ⟨h1, h2⟩ := takeKeyF_dom (l := l ++ [t]) hU (hD.put ht ⟨(nget N t).heard, true, (nget N t).key⟩) ht hh
          refine ⟨h1, Nat.le_trans h2 ?_⟩
          simp
          omega
        · split
          · exact ⟨hD.put ht _, by simp; omega⟩
          · exact ⟨hD.put ht _, by simp; omega⟩
end Go.Proofs.Ytfnnhekjeobicaa
